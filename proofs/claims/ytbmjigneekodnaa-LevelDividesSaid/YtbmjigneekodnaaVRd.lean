/-
  (rows) What this text proves: LevelDivides returns true. Conditions: the first argument is a row of codes, the second one an integer.
-/
import Derived.Test.YtbmjigneekodnaaVMw
import Derived.Test.YtbmjigneekodnaaVRc
set_option linter.unusedVariables false
set_option linter.unusedSimpArgs false

namespace Go.Pv
open Go.RowKit
theorem DivE.same {l : List T3} (hv : Valid l) {p t : Nat} {S : List Int} {f : Int × Int} (h : DivE l p t S f) : ∀ {f' : Int × Int}, DivE l p t S f' → ¬ fLt f f' := by
  induction h with
  | one h1 h2 h3 =>
    intro f' h
    generalize hp : 1 = p at h
    generalize hS : ([0] : List Int) = S at h
    cases h with
    | one k1 k2 k3 => exact best_le h3 k3
    | @more p' t' r S' g h k1 k2 k3 k4 =>
      obtain rfl : p' = 0 := by omega
      exact absurd (DivE.bd hv k1).1 (by omega)
  | @more p t s S g h a1 a2 a3 a4 ih =>
    intro f' hh
    generalize hp : p + 1 = p1 at hh
    generalize hS : S ++ [(s : Int)] = S1 at hh
    cases hh with
    | one k1 k2 k3 =>
      have := (DivE.bd hv a1).1
      omega
    | @more p' t' r S' g' h' k1 k2 k3 k4 =>
      obtain rfl : p = p' := by omega
      have e := List.append_inj' hS rfl
      have e1 := e.1
      have e2 : (s : Int) = r := by simpa using e.2
      obtain rfl : s = r := by omega
      subst e1
      have o1 := (DivE.bd hv a1).2.2
      have o2 := (DivE.bd hv k1).2.2
      have o3 := best_ok (valid_sec hv a2 a3) a4
      have o4 := best_ok (valid_sec hv k2 k3) k4
      exact fMax_le o2.2.1 o4.2.1 o1.2.1 o3.2.1 (ih k1) (best_le a4 k4)
theorem cErr_ne {l : List T3} {S : List Int} {m e : Int} {x : Int × Int} (h : divR l m S x e) : (e ≠ 0 ∧ S = []) ∨ (e = 0 ∧ cErr l = 0 ∧ (1 ≤ m ∧ m ≤ l.length) ∧ ∃ g, bestDiv l m.toNat l.length S g ∧ x = low g) := by
  rcases h with ⟨h1, _, ⟨h2, h3⟩ | ⟨_, _, h3⟩⟩ | ⟨h1, h2, h3, h4⟩
  · exact Or.inl ⟨by rw [h3]; exact h2, h1⟩
  · exact Or.inl ⟨by rw [h3]; decide, h1⟩
  · exact Or.inr ⟨h3, h1, h2, h4⟩
theorem div_bad {l : List T3} {S : List Int} {m e : Int} {x : Int × Int} (h : divR l m S x e) (he : ¬ e = 0) : S = [] := by
  rcases cErr_ne h with h | h
  · exact h.2
  · exact absurd h.1 he
theorem div_good {l : List T3} {S : List Int} {m e : Int} {x : Int × Int} (h : divR l m S x e) (he : e = 0) : ∃ n : Nat, m = n ∧ (Valid l ∧ (1 ≤ n ∧ n ≤ l.length)) ∧ (Asc S l.length ∧ S.length = n) ∧ ∃ g, bestDiv l n l.length S g ∧ x = low g := by
  rcases cErr_ne h with h | ⟨_, h1, h2, g, h3, h4⟩
  · exact absurd he h.1
  · have hv := valid_of h1
    exact ⟨m.toNat, by omega, ⟨hv, by omega⟩, ⟨div_asc hv h3.1, (DivE.bd hv h3.1).2.1⟩, g, h3, h4⟩
theorem div_same {l : List T3} {S : List Int} {m e e' : Int} {x y : Int × Int} (h : divR l m S x e) (k : rdR l m y e') : x = y ∧ e = e' := by
  rcases k with ⟨rfl, ⟨k1, rfl⟩ | ⟨k1, k2, rfl⟩⟩ | ⟨k1, k2, rfl, q, k3, rfl⟩
  · rcases h with ⟨_, rfl, ⟨_, h⟩ | ⟨h, _⟩⟩ | ⟨h, _⟩
    · exact ⟨rfl, h⟩
    · exact absurd h k1
    · exact absurd h k1
  · rcases h with ⟨_, rfl, ⟨h, _⟩ | ⟨_, _, h⟩⟩ | ⟨_, h, _⟩
    · exact absurd k1 h
    · exact ⟨rfl, h⟩
    · exact absurd h k2
  · rcases h with ⟨_, rfl, ⟨h, _⟩ | ⟨_, h, _⟩⟩ | ⟨_, _, rfl, g, h3, rfl⟩
    · exact absurd k1 h
    · exact absurd k2 h
    · exact ⟨low_same (valid_of k1) h3.1 k3.1 (k3.2 _ _ h3.1) (h3.2 _ _ k3.1), rfl⟩
section
variable {P : Program} {l : St} {w : World} {od : Option Nat} {ty : TypeId} {pos : String} {af : Array Edge}
theorem r_neIF {x y : Operand} {T T2 : TypeId} {k : IntKind} {m : Int} (hx : ev l x = .int k m) (hy : ev l y = .int k m) : Runs P ⟨od, .binOp .neq T x y T2, ty, pos, af, none⟩ l w (.bool false) := by
  have := r_neq (P := P) (od := od) (ty := ty) (pos := pos) (af := af) (T := T) (T2 := T2) (w := w) hx hy
  rwa [decide_eq_false (fun h => h rfl)] at this
end
end Go.Pv
namespace Go.Proofs.Ytbmjigneekodnaa
open Go.Pv Go.RowKit
set_option maxHeartbeats 16000000
set_option maxRecDepth 20000

theorem take_one {l : List T3} {k : Nat} (h : k < l.length) : l.take (k + 1) = l.take k ++ [l.getD k cD] := by
  rw [List.take_succ_eq_append_getElem h]
  have e : l.getD k cD = l[k] := by simp [h]
  rw [e]
theorem eqRatio (x y : Int × Int) (w : World) : (binOp .eql 24 (.agg (pc x).toArray) (.agg (pc y).toArray)).run Try.prog w = .ok (.bool (decide (x = y))) w := by
  have hS : Try.prog.underlying 24 = some (.struct (Try.prog.fieldsOf 24)) := by kernel_rfl
  have hp : Try.prog.stoodInHeld 24 = false := by kernel_rfl
  simp only [pc]
  rw [run_eql_struct, show (10000 : Nat) = 9999 + 1 from rfl, run_equalIn_agg w 9999 24 _ _ hS hp]
  simp only [Program.fieldsOf, Try.underlying24]
  go_simp
  obtain ⟨a, b⟩ := x
  obtain ⟨c, d⟩ := y
  by_cases h1 : a = c <;> by_cases h2 : b = d <;> simp [h1, h2]
theorem r_eqRatioT {l : St} {w : World} {od : Option Nat} {ty : TypeId} {pos : String} {af : Array Edge} {x y : Operand} {a0 a1 : Int} (hx : ev l x = .agg #[.int .i64 a0, .int .i64 a1]) (hy : ev l y = .agg #[.int .i64 a0, .int .i64 a1]) : Runs Try.prog ⟨od, .binOp .eql 24 x y 24, ty, pos, af, none⟩ l w (.bool true) := by
  have hg : Try.prog.eqGuardType Try.prog.depth 24 = false := by kernel_rfl
  have h := eqRatio (a0, a1) (a0, a1) w
  rw [decide_eq_true rfl] at h
  simp only [pc] at h
  unfold Runs
  simp only [execOp, hx, hy, Sem.run_bind, run_eqGuard_agg (w := w) .eql 24 x y _ _ hg, Result.andThen_ok, h, Sem.run_pure]
theorem neRatio (x y : Int × Int) (w : World) : (binOp .neq 24 (.agg (pc x).toArray) (.agg (pc y).toArray)).run Try.prog w = .ok (.bool (!decide (x = y))) w := by
  have hS : Try.prog.underlying 24 = some (.struct (Try.prog.fieldsOf 24)) := by kernel_rfl
  have hp : Try.prog.stoodInHeld 24 = false := by kernel_rfl
  simp only [pc]
  rw [run_neq_struct, show (10000 : Nat) = 9999 + 1 from rfl, run_equalIn_agg w 9999 24 _ _ hS hp]
  simp only [Program.fieldsOf, Try.underlying24]
  go_simp
  obtain ⟨a, b⟩ := x
  obtain ⟨c, d⟩ := y
  by_cases h1 : a = c <;> by_cases h2 : b = d <;> simp [h1, h2]
theorem r_neRatioF {l : St} {w : World} {od : Option Nat} {ty : TypeId} {pos : String} {af : Array Edge} {x y : Operand} {a0 a1 : Int} (hx : ev l x = .agg #[.int .i64 a0, .int .i64 a1]) (hy : ev l y = .agg #[.int .i64 a0, .int .i64 a1]) : Runs Try.prog ⟨od, .binOp .neq 24 x y 24, ty, pos, af, none⟩ l w (.bool false) := by
  have hg : Try.prog.eqGuardType Try.prog.depth 24 = false := by kernel_rfl
  have h := neRatio (a0, a1) (a0, a1) w
  rw [decide_eq_true rfl] at h
  simp only [pc, Bool.not_true] at h
  unfold Runs
  simp only [execOp, hx, hy, Sem.run_bind, run_eqGuard_agg (w := w) .neq 24 x y _ _ hg, Result.andThen_ok, h, Sem.run_pure]
theorem given_any (v : Value) (l : List T3) (w : World) (h : Row cC 3 w v l) (hn : l.length ≤ 1000) : Ret Try.prog 12 [v] w fun r w' => Row cC 3 w' r l := by
  have hv1 := h.one
  have tk1 : True := trivial
  refine ret_of_c Try.func12 rfl Try.ntmps12 (Nat.le_of_ble_eq_true rfl) (by dsimp only [ini, Nat.reduceAdd] <;> exact rfl) ?_
  repeat' (first
      | (clear tkA; (have hu1 := OwnR.one hown0); by_cases hkl : k < l.length; rotate_left 1)
      | (refine W_indexRw (f := cC) (n := 3) (v := v) (xs := l) (i := k) cD cC_len (by decide) rfl (by repeat (first | assumption | ((with_reducible apply OwnR.grownS); assumption; omega) | ((with_reducible apply Row.ex); assumption) | ((with_reducible apply OwnR.ex); assumption) | ((with_reducible apply Bx.grownS); assumption; (first | omega | exact Bx.ne (by assumption) (by omega))) | ((with_reducible apply Bx.below); assumption; omega) | ((with_reducible apply Own.grownS); assumption; omega) | ((with_reducible apply Bx.ex); assumption) | ((with_reducible apply IntsK.ex); assumption) | ((with_reducible apply Own.ex); assumption) | ((with_reducible apply Prs.ex); assumption))) rfl (by omega) ?_; intro pb po hpc; (have hpc3 : Cells _ ⟨pb, po, none⟩ [_, _, _] := hpc))
      | (refine W_bsR3 rfl ?_; intro bq wq hbq he hnq; have hltq := Bx.lt hbq; have hsz := he.size)
      | ((with_reducible apply W_appendR (f := cC) (n := 3) (m := l.getD k cD)); exact fun _ => rfl; decide; exact rfl; ((conv => lhs; whnf) <;> exact rfl); (focus ((repeat (first | assumption | ((with_reducible apply OwnR.grownS); assumption; omega) | ((with_reducible apply Row.ex); assumption) | ((with_reducible apply OwnR.ex); assumption) | ((with_reducible apply Bx.grownS); assumption; (first | omega | exact Bx.ne (by assumption) (by omega))) | ((with_reducible apply Bx.below); assumption; omega) | ((with_reducible apply Own.grownS); assumption; omega) | ((with_reducible apply Bx.ex); assumption) | ((with_reducible apply IntsK.ex); assumption) | ((with_reducible apply Own.ex); assumption) | ((with_reducible apply Prs.ex); assumption))); done)); exact rfl; (show Bx _ _ [_, _, _] _); (focus ((repeat (first | assumption | ((with_reducible apply OwnR.grownS); assumption; omega) | ((with_reducible apply Row.ex); assumption) | ((with_reducible apply OwnR.ex); assumption) | ((with_reducible apply Bx.grownS); assumption; (first | omega | exact Bx.ne (by assumption) (by omega))) | ((with_reducible apply Bx.below); assumption; omega) | ((with_reducible apply Own.grownS); assumption; omega) | ((with_reducible apply Bx.ex); assumption) | ((with_reducible apply IntsK.ex); assumption) | ((with_reducible apply Own.ex); assumption) | ((with_reducible apply Prs.ex); assumption))); done)); exact rfl; (simp only [List.length_take]; omega); (focus ((show Ex w _); (repeat (first | assumption | exact Ex.refl _ | (refine Ex.trans ?_ (by assumption)) | (refine Ex.of_grown ?_ (by assumption) (by intro k hk; cases hk; omega)))); done)); omega; (first | omega | exact Bx.lt (by repeat (first | assumption | ((with_reducible apply OwnR.grownS); assumption; omega) | ((with_reducible apply Row.ex); assumption) | ((with_reducible apply OwnR.ex); assumption) | ((with_reducible apply Bx.grownS); assumption; (first | omega | exact Bx.ne (by assumption) (by omega))) | ((with_reducible apply Bx.below); assumption; omega) | ((with_reducible apply Own.grownS); assumption; omega) | ((with_reducible apply Bx.ex); assumption) | ((with_reducible apply IntsK.ex); assumption) | ((with_reducible apply Own.ex); assumption) | ((with_reducible apply Prs.ex); assumption)))); intro vq wq hown he hkq hgq; have hsz := he.size)
      | ((first | ((with_reducible apply W_op); exact rfl; exact rfl)); (first | ((with_reducible apply r_indexArr); exact rfl; exact rfl; omega) | (exact r_indexArr (i := 0) rfl rfl (by decide)) | (exact r_indexArr (i := 1) rfl rfl (by decide)) | (exact r_indexArr (i := 2) rfl rfl (by decide)) | ((with_reducible apply r_move); ((conv => lhs; whnf) <;> exact rfl)) | ((with_reducible apply r_assign); ((conv => lhs; whnf) <;> exact rfl)) | ((with_reducible apply r_load); exact rfl; exact rfl; (first | assumption | exact (Bx.cell (by repeat (first | assumption | ((with_reducible apply Bx.grownS); assumption; (first | omega | exact Bx.ne (by assumption) (by omega))) | ((with_reducible apply Bx.below); assumption; omega) | ((with_reducible apply Bx.ex); assumption))) _).trans rfl | exact Ex.cell (by assumption) (by assumption))) | ((with_reducible apply r_loadF); exact rfl; (first | assumption | exact (Bx.cell (by repeat (first | assumption | ((with_reducible apply Bx.grownS); assumption; (first | omega | exact Bx.ne (by assumption) (by omega))) | ((with_reducible apply Bx.below); assumption; omega) | ((with_reducible apply Bx.ex); assumption))) _).trans rfl | exact Ex.cell (by assumption) (by assumption))) | ((with_reducible apply r_loadA); exact rfl; (first | assumption | exact Bx.cells (by repeat (first | assumption | ((with_reducible apply Bx.grownS); assumption; (first | omega | exact Bx.ne (by assumption) (by omega))) | ((with_reducible apply Bx.below); assumption; omega) | ((with_reducible apply Bx.ex); assumption))) | exact Cells.ex (by assumption) (by assumption)); exact rfl) | ((with_reducible apply r_lss); exact rfl; exact rfl) | ((with_reducible apply r_add); exact rfl; exact rfl; omega) | ((with_reducible apply r_len); exact rfl) | ((with_reducible apply r_lenStr); exact rfl) | ((with_reducible apply r_lenInts); ((conv => lhs; whnf) <;> exact rfl); (focus ((repeat (first | assumption | ((with_reducible apply OwnR.grownS); assumption; omega) | ((with_reducible apply Row.ex); assumption) | ((with_reducible apply OwnR.ex); assumption) | ((with_reducible apply Bx.grownS); assumption; (first | omega | exact Bx.ne (by assumption) (by omega))) | ((with_reducible apply Bx.below); assumption; omega) | ((with_reducible apply Own.grownS); assumption; omega) | ((with_reducible apply Bx.ex); assumption) | ((with_reducible apply IntsK.ex); assumption) | ((with_reducible apply Own.ex); assumption) | ((with_reducible apply Prs.ex); assumption))); done))) | ((with_reducible apply r_lenPrs); ((conv => lhs; whnf) <;> exact rfl); (focus ((repeat (first | assumption | ((with_reducible apply OwnR.grownS); assumption; omega) | ((with_reducible apply Row.ex); assumption) | ((with_reducible apply OwnR.ex); assumption) | ((with_reducible apply Bx.grownS); assumption; (first | omega | exact Bx.ne (by assumption) (by omega))) | ((with_reducible apply Bx.below); assumption; omega) | ((with_reducible apply Own.grownS); assumption; omega) | ((with_reducible apply Bx.ex); assumption) | ((with_reducible apply IntsK.ex); assumption) | ((with_reducible apply Own.ex); assumption) | ((with_reducible apply Prs.ex); assumption))); done))) | ((with_reducible apply r_loadSub); exact rfl; (focus ((repeat (first | assumption | ((with_reducible apply Bx.grownS); assumption; (first | omega | exact Bx.ne (by assumption) (by omega))) | ((with_reducible apply Bx.below); assumption; omega) | ((with_reducible apply Bx.ex); assumption))); done)); ((simp only [Nat.add_zero, Nat.zero_add, Nat.reduceAdd, List.drop_zero, List.drop_succ_cons, List.take_succ_cons, List.take_zero]) <;> exact rfl); exact rfl) | ((with_reducible apply r_lenR); ((conv => lhs; whnf) <;> exact rfl); (focus ((repeat (first | assumption | ((with_reducible apply OwnR.grownS); assumption; omega) | ((with_reducible apply Row.ex); assumption) | ((with_reducible apply OwnR.ex); assumption) | ((with_reducible apply Bx.grownS); assumption; (first | omega | exact Bx.ne (by assumption) (by omega))) | ((with_reducible apply Bx.below); assumption; omega) | ((with_reducible apply Own.grownS); assumption; omega) | ((with_reducible apply Bx.ex); assumption) | ((with_reducible apply IntsK.ex); assumption) | ((with_reducible apply Own.ex); assumption) | ((with_reducible apply Prs.ex); assumption))); done)))))
      | ((with_reducible (show C _ _ _ _ _)); clear tk1; refine c_loopG (fun (k : Nat) ps wr => ∃ u : Value, ∃ i : Int, ps = [(0, v), (2, .slice none 0 0), (3, u), (4, .int .i64 i)] ∧ i = k ∧ k ≤ l.length ∧ OwnR cC 3 79 w.heap.size wr u (l.take k) ∧ Ex w wr) (fun k => l.length - k) 0 _ ⟨_, _, rfl, rfl, Nat.zero_le _, OwnR.nil _ _ _, (by repeat (first | assumption | exact Ex.refl _ | (refine Ex.trans ?_ (by assumption)) | (refine Ex.of_grown ?_ (by assumption) (by intro k hk; cases hk; omega))))⟩ ⟨rfl, rfl, rfl, rfl, trivial⟩ (by ((conv => lhs; whnf) <;> exact rfl)) ?_; rintro J hJ k u ps wr ⟨u, i, rfl, rfl, hk, hown0, he⟩; have hsz := he.size; have tkA : True := trivial)
      | ((with_reducible (show Exit.then _ _ _ _ _)); refine n_roundG (k + 1) (hJ _ _ _ _ ⟨_, _, rfl, by omega, by omega, (by rw [take_one hkl]; exact (by repeat (first | assumption | ((with_reducible apply OwnR.grownS); assumption; omega) | ((with_reducible apply Row.ex); assumption) | ((with_reducible apply OwnR.ex); assumption) | ((with_reducible apply Bx.grownS); assumption; (first | omega | exact Bx.ne (by assumption) (by omega))) | ((with_reducible apply Bx.below); assumption; omega) | ((with_reducible apply Own.grownS); assumption; omega) | ((with_reducible apply Bx.ex); assumption) | ((with_reducible apply IntsK.ex); assumption) | ((with_reducible apply Own.ex); assumption) | ((with_reducible apply Prs.ex); assumption)))), (by repeat (first | assumption | exact Ex.refl _ | (refine Ex.trans ?_ (by assumption)) | (refine Ex.of_grown ?_ (by assumption) (by intro k hk; cases hk; omega))))⟩ ⟨rfl, rfl, rfl, rfl, trivial⟩ rfl) (by omega))
      | (with_reducible apply W_nil)
      | ((with_reducible apply W_indexInt); ((conv => lhs; whnf) <;> exact rfl); (focus ((repeat (first | assumption | ((with_reducible apply OwnR.grownS); assumption; omega) | ((with_reducible apply Row.ex); assumption) | ((with_reducible apply OwnR.ex); assumption) | ((with_reducible apply Bx.grownS); assumption; (first | omega | exact Bx.ne (by assumption) (by omega))) | ((with_reducible apply Bx.below); assumption; omega) | ((with_reducible apply Own.grownS); assumption; omega) | ((with_reducible apply Bx.ex); assumption) | ((with_reducible apply IntsK.ex); assumption) | ((with_reducible apply Own.ex); assumption) | ((with_reducible apply Prs.ex); assumption))); done)); exact rfl; omega; intro pq hpq)
      | ((with_reducible apply W_indexIntss); ((conv => lhs; whnf) <;> exact rfl); assumption; (focus ((repeat (first | assumption | exact Ex.refl _ | (refine Ex.trans ?_ (by assumption)) | (refine Ex.of_grown ?_ (by assumption) (by intro k hk; cases hk; omega)))); done)); exact rfl; omega; intro pq uq hpq huq)
      | ((with_reducible apply W_indexPr); ((conv => lhs; whnf) <;> exact rfl); (focus ((repeat (first | assumption | ((with_reducible apply OwnR.grownS); assumption; omega) | ((with_reducible apply Row.ex); assumption) | ((with_reducible apply OwnR.ex); assumption) | ((with_reducible apply Bx.grownS); assumption; (first | omega | exact Bx.ne (by assumption) (by omega))) | ((with_reducible apply Bx.below); assumption; omega) | ((with_reducible apply Own.grownS); assumption; omega) | ((with_reducible apply Bx.ex); assumption) | ((with_reducible apply IntsK.ex); assumption) | ((with_reducible apply Own.ex); assumption) | ((with_reducible apply Prs.ex); assumption))); done)); exact rfl; omega; intro pq hpq)
      | ((with_reducible apply W_bsP); exact rfl; exact rfl; intro bq wq hbq he hnq; have hltq := Bx.lt hbq; have hsz := he.size)
      | ((with_reducible apply W_bs1); ((conv => lhs; whnf) <;> exact rfl); (first | exact rfl | assumption | exact IntsK.one (by assumption) | exact Prs.one (by assumption) | exact Own.one (by assumption) | exact Row.one (by assumption) | exact OwnR.one (by assumption)); decide; decide; exact rfl; exact rfl; ((simp only [lay, lset, List.replicate_succ, List.replicate_zero]) <;> exact rfl); intro bq wq hbq he hnq; have hltq := Bx.lt hbq; have hsz := he.size)
      | (with_reducible apply c_seq)
      | (with_reducible apply c_region)
      | (with_reducible apply c_block)
      | (with_reducible apply c_skip)
      | (with_reducible apply c_ret)
      | (with_reducible apply c_exit)
      | ((with_reducible apply c_cond_true); exact rfl)
      | ((with_reducible apply c_cond_false); exact rfl)
      | ((with_reducible apply c_cond_dec); exact rfl; intro _; rotate_left 1; intro _)
      | ((with_reducible apply c_cond_bool); exact rfl; intro _; rotate_left 1; intro _)
      | (with_reducible apply n_then)
      | (with_reducible apply n_block)
      | (with_reducible apply e_then)
      | (with_reducible apply e_block)
      | (with_reducible apply r_then)
      | (with_reducible apply r_block)
      | ((with_reducible apply e_block'); decide)
      | ((with_reducible apply p_ret1); exact rfl; ((conv => lhs; whnf) <;> exact rfl); refine ⟨_, rfl, ?_, (by repeat (first | assumption | exact Ex.refl _ | (refine Ex.trans ?_ (by assumption)) | (refine Ex.of_grown ?_ (by assumption) (by intro k hk; cases hk; omega))))⟩)
      | ((with_reducible apply q_ret1); exact rfl; ((conv => lhs; whnf) <;> exact rfl); refine ⟨_, rfl, ?_, (by repeat (first | assumption | exact Ex.refl _ | (refine Ex.trans ?_ (by assumption)) | (refine Ex.of_grown ?_ (by assumption) (by intro k hk; cases hk; omega))))⟩)
      | ((with_reducible apply p_retct); exact rfl; exact inferInstance; exact inferInstance; exact rfl; (focus ((repeat (first | assumption | ((with_reducible apply Bx.grownS); assumption; (first | omega | exact Bx.ne (by assumption) (by omega))) | ((with_reducible apply Bx.below); assumption; omega) | ((with_reducible apply Bx.ex); assumption))); done)); exact rfl; exact rfl; refine ⟨_, rfl, ?_, (by repeat (first | assumption | exact Ex.refl _ | (refine Ex.trans ?_ (by assumption)) | (refine Ex.of_grown ?_ (by assumption) (by intro k hk; cases hk; omega))))⟩)
      | ((exfalso; omega)))
  have hke : l.take k = l := List.take_of_length_le (by omega)
  rw [hke] at hown0
  exact OwnR.row (fun _ => rfl) (by repeat (first | assumption | ((with_reducible apply OwnR.grownS); assumption; omega) | ((with_reducible apply Row.ex); assumption) | ((with_reducible apply OwnR.ex); assumption) | ((with_reducible apply Bx.grownS); assumption; (first | omega | exact Bx.ne (by assumption) (by omega))) | ((with_reducible apply Bx.below); assumption; omega) | ((with_reducible apply Own.grownS); assumption; omega) | ((with_reducible apply Bx.ex); assumption) | ((with_reducible apply IntsK.ex); assumption) | ((with_reducible apply Own.ex); assumption) | ((with_reducible apply Prs.ex); assumption)))
theorem dividesL_any (v : Value) (l : List T3) (n0 : Int) (w : World) (h : Row cC 3 w v l) :
    Ret Try.prog 5 [v, .int .i64 n0] w fun r _ => r = .bool true := by
  have hv1 := h.one
  have hl := h.len
  refine ret_of_c Try.func5 rfl Try.ntmps5 (Nat.le_of_ble_eq_true rfl) (by dsimp only [ini, Nat.reduceAdd] <;> exact rfl) ?_
  repeat' (first
      | (((with_reducible apply W_split); exact rfl; exact rfl; (all_goals intro _); (all_goals (try (exfalso; (focus (omega; done)))))))
      | (((with_reducible apply c_cond_dec); exact rfl; (all_goals intro _); (all_goals (try (exfalso; (focus (omega; done)))))))
      | ((with_reducible apply W_op); exact rfl; exact rfl; ((with_reducible apply r_lenR (f := cC) (n := 3) (xs := l) (v := v)); exact rfl; exact Row.ex (by repeat (first | exact Ex.refl _ | assumption | (refine Ex.of_grown ?_ (by assumption) (by intro k hk; cases hk; omega)) | (refine Ex.trans ?_ (by assumption)))) h))
      | ((with_reducible apply W_op); exact rfl; exact rfl; ((with_reducible apply r_lenInts (v := vp) (xs := S)); exact rfl; exact IntsK.ex (by repeat (first | exact Ex.refl _ | assumption | (refine Ex.of_grown ?_ (by assumption) (by intro k hk; cases hk; omega)) | (refine Ex.trans ?_ (by assumption)))) hS))
      | ((with_reducible (show C _ _ _ _ _)); refine c_cutG (x := .region 3 _ _) (n := 76) (fun ps wr => ∃ (vx : Value), ps = ([(0, v), (1, .int .i64 n0), (5, vx)] : List (Nat × Value)) ∧ Row cC 3 wr vx l ∧ Ex w wr) (fun J3 hJ3 => ?_) (fun u3 ps3 w3 hI3 => ?_); rotate_left 1; obtain ⟨vx, rfl, hxr, he⟩ := hI3; have hsz := he.size; have hvx1 := hxr.one; (have h3 : Row cC 3 w3 v l := Row.ex he h); rotate_left 1)
      | ((with_reducible (show C _ _ _ _ _)); refine c_cutG (x := .region 4 _ _) (n := 76) (fun ps wr => ∃ (b7 : Nat) (vp : Value) (S : List Int) (x : Int × Int) (e : Int), ps = ([(0, v), (1, .int .i64 n0), (5, vx), (6, vp), (7, .pointer (some ⟨b7, 0, none⟩)), (8, .int .i64 e)] : List (Nat × Value)) ∧ Ints wr vp S ∧ divR l n0 S x e ∧ Bx wr b7 [.int .i64 x.1, .int .i64 x.2] 24 ∧ Ex w3 wr) (fun J4 hJ4 => ?_) (fun u4 ps4 w4 hI4 => ?_); rotate_left 1; obtain ⟨b7, vp, S, x, e, rfl, hS, hdR, hx7, he⟩ := hI4; have hsz := he.size; have hvp1 := hS.one; rotate_left 1)
      | ((with_reducible (show C _ _ _ _ _)); refine c_cutG (x := .region 5 _ _) (n := 76) (fun ps wr => ∃ (b10 : Nat), ps = ([(0, v), (1, .int .i64 n0), (5, vx), (6, vp), (7, .pointer (some ⟨b7, 0, none⟩)), (8, .int .i64 e), (10, .pointer (some ⟨b10, 0, none⟩)), (11, .int .i64 e)] : List (Nat × Value)) ∧ Bx wr b10 [.int .i64 x.1, .int .i64 x.2] 24 ∧ Ex w4 wr) (fun J5 hJ5 => ?_) (fun u5 ps5 w5 hI5 => ?_); rotate_left 1; obtain ⟨b10, rfl, hx10, he⟩ := hI5; have hsz := he.size; by_cases he0 : e = 0; (obtain ⟨n, hn, hln, hAs, g, hbd, hxg⟩ := div_good hdR he0); subst hn; subst he0; rotate_left 1; (have hSe := div_bad hdR he0); subst hSe; rotate_left 1)
      | ((with_reducible apply W_op); exact rfl; exact rfl; ((with_reducible apply r_neRatioF); exact rfl; exact rfl))
      | ((with_reducible apply W_op); exact rfl; exact rfl; ((with_reducible apply r_eqRatioT); exact rfl; exact rfl))
      | ((with_reducible apply W_op); exact rfl; exact rfl; ((with_reducible apply r_neIF); exact rfl; exact rfl))
      | ((with_reducible (show C _ _ _ _ _)); refine c_cutG (x := .region 10 _ _) (n := 76) (fun ps wr => ∃ (b12 : Nat), ps = ([(10, .pointer (some ⟨b10, 0, none⟩)), (12, .pointer (some ⟨b12, 0, none⟩)), (13, .bool true)] : List (Nat × Value)) ∧ Bx wr b12 [.int .i64 x.1, .int .i64 x.2] 24 ∧ Ex w5 wr) (fun J6 hJ6 => ?_) (fun u6 ps6 w6 hI6 => ?_); rotate_left 1; obtain ⟨b12, rfl, hx12, he⟩ := hI6; have hsz := he.size; rotate_left 1)
      | ((first | ((with_reducible apply W_op); exact rfl; exact rfl)); (first | ((with_reducible apply r_move); ((conv => lhs; whnf) <;> exact rfl)) | ((with_reducible apply r_assign); ((conv => lhs; whnf) <;> exact rfl)) | ((with_reducible apply r_load); exact rfl; exact rfl; (first | assumption | exact (Bx.cell (by repeat (first | assumption | ((with_reducible apply Bx.grownS); assumption; (first | omega | exact Bx.ne (by assumption) (by omega))) | ((with_reducible apply Bx.below); assumption; omega) | ((with_reducible apply Bx.ex); assumption))) _).trans rfl | exact Ex.cell (by assumption) (by assumption))) | ((with_reducible apply r_loadF); exact rfl; (first | assumption | exact (Bx.cell (by repeat (first | assumption | ((with_reducible apply Bx.grownS); assumption; (first | omega | exact Bx.ne (by assumption) (by omega))) | ((with_reducible apply Bx.below); assumption; omega) | ((with_reducible apply Bx.ex); assumption))) _).trans rfl | exact Ex.cell (by assumption) (by assumption))) | ((with_reducible apply r_loadA); exact rfl; (first | assumption | exact Bx.cells (by repeat (first | assumption | ((with_reducible apply Bx.grownS); assumption; (first | omega | exact Bx.ne (by assumption) (by omega))) | ((with_reducible apply Bx.below); assumption; omega) | ((with_reducible apply Bx.ex); assumption))) | exact Cells.ex (by assumption) (by assumption)); exact rfl) | ((with_reducible apply r_leq); exact rfl; exact rfl) | ((with_reducible apply r_gtr); exact rfl; exact rfl) | ((with_reducible apply r_eql); exact rfl; exact rfl) | ((with_reducible apply r_neq); exact rfl; exact rfl) | ((with_reducible apply r_len); exact rfl) | ((with_reducible apply r_lenStr); exact rfl) | ((with_reducible apply r_lenInts); ((conv => lhs; whnf) <;> exact rfl); (focus ((repeat (first | assumption | ((with_reducible apply OwnR.grownS); assumption; omega) | ((with_reducible apply Row.ex); assumption) | ((with_reducible apply OwnR.ex); assumption) | ((with_reducible apply Bx.grownS); assumption; (first | omega | exact Bx.ne (by assumption) (by omega))) | ((with_reducible apply Bx.below); assumption; omega) | ((with_reducible apply Own.grownS); assumption; omega) | ((with_reducible apply Bx.ex); assumption) | ((with_reducible apply IntsK.ex); assumption) | ((with_reducible apply Own.ex); assumption) | ((with_reducible apply Prs.ex); assumption))); done))) | ((with_reducible apply r_lenPrs); ((conv => lhs; whnf) <;> exact rfl); (focus ((repeat (first | assumption | ((with_reducible apply OwnR.grownS); assumption; omega) | ((with_reducible apply Row.ex); assumption) | ((with_reducible apply OwnR.ex); assumption) | ((with_reducible apply Bx.grownS); assumption; (first | omega | exact Bx.ne (by assumption) (by omega))) | ((with_reducible apply Bx.below); assumption; omega) | ((with_reducible apply Own.grownS); assumption; omega) | ((with_reducible apply Bx.ex); assumption) | ((with_reducible apply IntsK.ex); assumption) | ((with_reducible apply Own.ex); assumption) | ((with_reducible apply Prs.ex); assumption))); done))) | ((with_reducible apply r_pick_true); exact rfl; ((conv => lhs; whnf) <;> exact rfl)) | ((with_reducible apply r_pick_false); exact rfl; ((conv => lhs; whnf) <;> exact rfl)) | ((with_reducible apply r_eqlb); exact rfl; exact rfl) | ((with_reducible apply r_neqb); exact rfl; exact rfl) | ((with_reducible apply r_extract); exact rfl; exact rfl) | ((with_reducible apply r_loadSub); exact rfl; (focus ((repeat (first | assumption | ((with_reducible apply Bx.grownS); assumption; (first | omega | exact Bx.ne (by assumption) (by omega))) | ((with_reducible apply Bx.below); assumption; omega) | ((with_reducible apply Bx.ex); assumption))); done)); ((simp only [Nat.add_zero, Nat.zero_add, Nat.reduceAdd, List.drop_zero, List.drop_succ_cons, List.take_succ_cons, List.take_zero]) <;> exact rfl); exact rfl) | ((with_reducible apply r_lenR); ((conv => lhs; whnf) <;> exact rfl); (focus ((repeat (first | assumption | ((with_reducible apply OwnR.grownS); assumption; omega) | ((with_reducible apply Row.ex); assumption) | ((with_reducible apply OwnR.ex); assumption) | ((with_reducible apply Bx.grownS); assumption; (first | omega | exact Bx.ne (by assumption) (by omega))) | ((with_reducible apply Bx.below); assumption; omega) | ((with_reducible apply Own.grownS); assumption; omega) | ((with_reducible apply Bx.ex); assumption) | ((with_reducible apply IntsK.ex); assumption) | ((with_reducible apply Own.ex); assumption) | ((with_reducible apply Prs.ex); assumption))); done)))))
      | (refine W_call (given_any v l _ (Row.ex (by repeat (first | exact Ex.refl _ | assumption | (refine Ex.of_grown ?_ (by assumption) (by intro k hk; cases hk; omega)) | (refine Ex.trans ?_ (by assumption)))) h) (by omega)) rfl ?_; rintro vx wq hxr he; have hsz := he.size; have hvx1 := hxr.one)
      | ((with_reducible (show Exit.then _ _ _ _ _)); refine n_cutG (hJ3 _ _ _ ⟨_, rfl, Row.ex (by repeat (first | exact Ex.refl _ | assumption | (refine Ex.of_grown ?_ (by assumption) (by intro k hk; cases hk; omega)) | (refine Ex.trans ?_ (by assumption)))) hxr, (by repeat (first | assumption | exact Ex.refl _ | (refine Ex.trans ?_ (by assumption)) | (refine Ex.of_grown ?_ (by assumption) (by intro k hk; cases hk; omega))))⟩ ⟨rfl, rfl, rfl, trivial⟩ rfl))
      | (refine W_call (Divide_any v l n0 _ (Row.ex (by repeat (first | exact Ex.refl _ | assumption | (refine Ex.of_grown ?_ (by assumption) (by intro k hk; cases hk; omega)) | (refine Ex.trans ?_ (by assumption)))) h3)) rfl ?_; rintro vq wq ⟨vp, S, x, e, rfl, hS, hSn, hdR⟩ he; have hsz := he.size; have hvp1 := hS.one)
      | ((with_reducible (show Exit.then _ _ _ _ _)); refine n_cutG (hJ4 _ _ _ ⟨_, _, S, x, e, rfl, IntsK.ex (by repeat (first | exact Ex.refl _ | assumption | (refine Ex.of_grown ?_ (by assumption) (by intro k hk; cases hk; omega)) | (refine Ex.trans ?_ (by assumption)))) hS, hdR, (by repeat (first | assumption | ((with_reducible apply Bx.grownS); assumption; (first | omega | exact Bx.ne (by assumption) (by omega))) | ((with_reducible apply Bx.below); assumption; omega) | ((with_reducible apply Bx.ex); assumption))), (by repeat (first | exact Ex.refl _ | assumption | (refine Ex.of_grown ?_ (by assumption) (by intro k hk; cases hk; omega)) | (refine Ex.trans ?_ (by assumption))))⟩ ⟨rfl, rfl, rfl, rfl, rfl, rfl, trivial⟩ rfl))
      | (refine W_call (rDivide_any vx l n0 _ (Row.ex (by repeat (first | exact Ex.refl _ | assumption | (refine Ex.of_grown ?_ (by assumption) (by intro k hk; cases hk; omega)) | (refine Ex.trans ?_ (by assumption)))) hxr)) rfl ?_; rintro vq wq ⟨vw, y, e2, rfl, hrd⟩ he; have hsz := he.size; obtain ⟨rfl, rfl⟩ := div_same hdR hrd)
      | ((with_reducible (show Exit.then _ _ _ _ _)); refine n_cutG (hJ5 _ _ _ ⟨_, rfl, (by repeat (first | assumption | ((with_reducible apply Bx.grownS); assumption; (first | omega | exact Bx.ne (by assumption) (by omega))) | ((with_reducible apply Bx.below); assumption; omega) | ((with_reducible apply Bx.ex); assumption))), (by repeat (first | exact Ex.refl _ | assumption | (refine Ex.of_grown ?_ (by assumption) (by intro k hk; cases hk; omega)) | (refine Ex.trans ?_ (by assumption))))⟩ ⟨rfl, rfl, rfl, rfl, rfl, rfl, rfl, rfl, trivial⟩ rfl))
      | (refine W_call (rWorst_any vx vp l S n _ (Row.ex (by repeat (first | exact Ex.refl _ | assumption | (refine Ex.of_grown ?_ (by assumption) (by intro k hk; cases hk; omega)) | (refine Ex.trans ?_ (by assumption)))) hxr) (IntsK.ex (by repeat (first | exact Ex.refl _ | assumption | (refine Ex.of_grown ?_ (by assumption) (by intro k hk; cases hk; omega)) | (refine Ex.trans ?_ (by assumption)))) hS) hln.1 hAs.1 hAs.2) rfl ?_; rintro vq wq ⟨f, rfl, hf⟩ he; have hsz := he.size; (have hfx : low f = x := by rw [hxg]; exact low_same hln.1 hf hbd.1 (DivE.same hln.1 hf hbd.1) (DivE.same hln.1 hbd.1 hf)))
      | ((with_reducible (show Exit.then _ _ _ _ _)); refine n_cutG (hJ6 _ _ _ ⟨_, rfl, (by rw [← hfx]; exact (by repeat (first | assumption | ((with_reducible apply Bx.grownS); assumption; (first | omega | exact Bx.ne (by assumption) (by omega))) | ((with_reducible apply Bx.below); assumption; omega) | ((with_reducible apply Bx.ex); assumption)))), (by repeat (first | exact Ex.refl _ | assumption | (refine Ex.of_grown ?_ (by assumption) (by intro k hk; cases hk; omega)) | (refine Ex.trans ?_ (by assumption))))⟩ ⟨rfl, rfl, rfl, trivial⟩ rfl))
      | (refine W_callv (works_any _) rfl (fun wq he => ?_); have hsz := he.size)
      | (with_reducible apply W_nil)
      | ((with_reducible apply W_alloc); exact rfl; intro bq wq hbq he hnq; have hltq := Bx.lt hbq; have hsz := he.size)
      | ((with_reducible apply W_storeA); exact rfl; (focus ((repeat (first | assumption | ((with_reducible apply Bx.grownS); assumption; (first | omega | exact Bx.ne (by assumption) (by omega))) | ((with_reducible apply Bx.below); assumption; omega) | ((with_reducible apply Bx.ex); assumption))); done)); exact rfl; exact rfl; exact rfl; (repeat' (first | exact trivial | (first | exact rfl | assumption | exact IntsK.one (by assumption) | exact Prs.one (by assumption) | exact Own.one (by assumption) | exact Row.one (by assumption) | exact OwnR.one (by assumption)) | constructor)); intro wq hbq hgq; have he : Ex w wq := (by repeat (first | assumption | exact Ex.refl _ | (refine Ex.trans ?_ (by assumption)) | (refine Ex.of_grown ?_ (by assumption) (by intro k hk; cases hk; omega)))); have hsz := he.size; have hgz := hgq.size)
      | ((with_reducible apply W_store); exact rfl; (focus ((repeat (first | assumption | ((with_reducible apply Bx.grownS); assumption; (first | omega | exact Bx.ne (by assumption) (by omega))) | ((with_reducible apply Bx.below); assumption; omega) | ((with_reducible apply Bx.ex); assumption))); done)); exact Nat.le_of_ble_eq_true rfl; ((conv => lhs; whnf) <;> exact rfl); (first | exact rfl | assumption | exact IntsK.one (by assumption) | exact Prs.one (by assumption) | exact Own.one (by assumption) | exact Row.one (by assumption) | exact OwnR.one (by assumption)); simp only [lset]; intro wq hbq hgq; have he : Ex w wq := (by repeat (first | assumption | exact Ex.refl _ | (refine Ex.trans ?_ (by assumption)) | (refine Ex.of_grown ?_ (by assumption) (by intro k hk; cases hk; omega)))); have hsz := he.size; have hgz := hgq.size)
      | ((with_reducible apply W_pass); exact rfl; exact rfl; exact rfl; exact rfl; exact rfl)
      | ((with_reducible apply W_take); exact rfl; exact rfl; exact rfl)
      | ((with_reducible apply W_passU); exact rfl; exact rfl; exact rfl; exact rfl)
      | ((with_reducible apply W_split); exact rfl; exact rfl; intro _; rotate_left 1; intro _)
      | (with_reducible apply c_seq)
      | (with_reducible apply c_region)
      | (with_reducible apply c_skip)
      | (with_reducible apply c_ret)
      | ((with_reducible apply c_cond_true); exact rfl)
      | ((with_reducible apply c_cond_false); exact rfl)
      | ((with_reducible apply c_cond_dec); exact rfl; intro _; rotate_left 1; intro _)
      | ((with_reducible apply c_cond_bool); exact rfl; intro _; rotate_left 1; intro _)
      | (with_reducible apply n_then)
      | (with_reducible apply e_then)
      | (with_reducible apply r_then)
      | ((with_reducible apply p_ret1); exact rfl; ((conv => lhs; whnf) <;> exact rfl); refine ⟨_, rfl, ?_, (by repeat (first | assumption | exact Ex.refl _ | (refine Ex.trans ?_ (by assumption)) | (refine Ex.of_grown ?_ (by assumption) (by intro k hk; cases hk; omega))))⟩)
      | ((with_reducible apply q_ret1); exact rfl; ((conv => lhs; whnf) <;> exact rfl); refine ⟨_, rfl, ?_, (by repeat (first | assumption | exact Ex.refl _ | (refine Ex.trans ?_ (by assumption)) | (refine Ex.of_grown ?_ (by assumption) (by intro k hk; cases hk; omega))))⟩)
      | ((with_reducible apply p_retct); exact rfl; exact inferInstance; exact inferInstance; exact rfl; (focus ((repeat (first | assumption | ((with_reducible apply Bx.grownS); assumption; (first | omega | exact Bx.ne (by assumption) (by omega))) | ((with_reducible apply Bx.below); assumption; omega) | ((with_reducible apply Bx.ex); assumption))); done)); exact rfl; exact rfl; refine ⟨_, rfl, ?_, (by repeat (first | assumption | exact Ex.refl _ | (refine Ex.trans ?_ (by assumption)) | (refine Ex.of_grown ?_ (by assumption) (by intro k hk; cases hk; omega))))⟩)
      | ((exfalso; omega)))
  all_goals first | rfl | exact absurd (show ((([] : List Int).length : Nat) : Int) = 0 from rfl) (by assumption) | skip
end Go.Proofs.Ytbmjigneekodnaa
