/-
  What this text proves: the passes of a job, as the plain functions say. Conditions: the values read as lists. (rows)
-/
import Derived.Test.YtjcigpakljfkeaaVUf
import Derived.Test.YtjcigpakljfkeaaMml
import Derived.Test.YtjcigpakljfkeaaUp
import Derived.Test.YtjcigpakljfkeaaOpr
set_option linter.unusedVariables false
set_option linter.unusedSimpArgs false
namespace Go.Pv
open Go.RowKit
section
variable {P : Program} {Q : Exit → Act → World → Prop} {ol rest : List Oper} {l : St} {w : World} {od : Option Nat} {ty : TypeId} {pos : String} {af : Array Edge}
theorem r_eqNil {x : Operand} {T T2 e : TypeId} {a : Addr} {n c : Nat} [h : Und P T (.slice e)] (hx : ev l x = .slice (some a) n c) : Runs P ⟨od, .binOp .eql T x (.const (.slice none 0 0)) T2, ty, pos, af, none⟩ l w (.bool false) := by
  have h0 : ev l (.const (.slice none 0 0)) = .slice none 0 0 := rfl
  have h1 : (eqGuard .eql T x (.const (.slice none 0 0)) (.slice (some a) n c) (.slice none 0 0)).run P w = .ok () w := by unfold eqGuard; rfl
  have h2 : (Op.equal T (.slice (some a) n c) (.slice none 0 0)).run P w = .ok false w := by
    unfold Op.equal Op.maxDepth Op.equalIn
    simp [h.run]
  simp only [Runs, execOp, hx, h0, Sem.run_bind, h1, Result.andThen_ok, binOp, h2, Sem.run_pure]
/-- append of cells that lie somewhere, also of none. -/
theorem W_appendVa {d : Nat} {x y : Operand} {T e : TypeId} {bytes base cap : Nat} {a : Addr} {v z : Value} {xs ys : List Value} {w0 : World} [hT : Und P T (.slice e)] [hz : Sz P e z 1 bytes] (hzc : z.cells.size = 1)
    (hx : ev l x = v) (hown : OwnV e base w v xs) (hy : ev l y = .slice (some a) ys.length cap) (hcell : ∀ j q, ys[j]? = some q → w.cell? (a.add j) = some q) (h1' : ∀ q ∈ ys, q.oneCell' = true) (hlen : (xs.length + ys.length) * bytes ≤ 140737488355328 ∧ xs.length + ys.length ≤ 1000000) (h0 : Ex w0 w) (hb0 : w0.heap.size ≤ base) (hbase : base ≤ w.heap.size)
    (K : ∀ v' w', OwnV e base w' v' (xs ++ ys) → Ex w0 w' → W P ol Q rest (upd l d v') w') :
    W P ol Q (⟨some d, .call { callee := .builtin .append, args := #[x, y], argTypes := #[T, T] }, ty, pos, af, none⟩ :: rest) l w := by
  obtain ⟨i, h1, h2, h3, h4⟩ := hz.parts
  have hlt := hown.lt
  have hml : xs.length + ys.length ≤ maxLen := by unfold maxLen; omega
  unfold OwnV at hown
  obtain ⟨v', w', hr, g1, g2, g3⟩ := run_append_own (P := P) w base T ty e i z 1 bytes hT.out h1 h2 h3 h4 hzc (by decide) v xs.length xs hown.2 a ys.length cap ys (by simp) hcell h1' hml hlen.1 hbase
  refine W_run (w' := w') rfl rfl ?_ (K v' w' (by unfold OwnV; exact ⟨by simpa using hml, by simpa using g1⟩) (h0.of_grown g2 fun k hk => by have := hlt k hk; omega))
  simp [execOp, resolve, Deferred.ofValue, invoke, builtin, hx, hy, hr]
theorem plC_cell {a v : Value} {t : List Int} {n j : Nat} {q : Value} (h : ((t.take n).map (Value.int .i64))[j]? = some q) : (plC a v t)[2 + j]? = some q := by
  rw [Nat.add_comm]
  simp only [plC, List.getElem?_cons_succ]
  simp only [List.getElem?_map, List.getElem?_take] at h ⊢
  split at h
  · exact h
  · simp at h
theorem p_ret3 {fn : Func} {t u s : Nat} {v v' v'' : Value} {R : Ending → World → Prop} (hd : l.ds = []) (hr : fn.results = #[.tmp t, .tmp u, .tmp s]) (hv : nth l t = v) (hv' : nth l u = v') (hv'' : nth l s = v'') (h : R (.returned (.tuple #[v, v', v''])) w) : BP P fn R .ret (act l) w := by
  refine bp_nil (.inl rfl) hd ⟨.tuple #[v, v', v''], ?_, h⟩
  have k1 : (act l).tmps[t]?.getD undef = v := by rw [nth_eq]; exact hv
  have k2 : (act l).tmps[u]?.getD undef = v' := by rw [nth_eq]; exact hv'
  have k3 : (act l).tmps[s]?.getD undef = v'' := by rw [nth_eq]; exact hv''
  simp [results, hr, k1, k2, k3]
theorem Own.ofV {E : TypeId} {base : Nat} {v : Value} {vs : List Value} {xs : List Int} (h : OwnV E base w v vs) (e : vs = xs.map (Value.int .i64)) : Own E base w v xs := by
  subst e
  unfold OwnV at h
  unfold Own
  simpa using h
theorem rowN {sl : List (Int × Int)} {E : TypeId} {base : Nat} {v : Value} {xs : List Nat} (h : OwnR (encN sl) 3 E base w v xs) : Row (encN sl) 3 w v xs := OwnR.row (fun _ => rfl) h
theorem planL_bd {rest : Int} {sl : List (Int × Int)} (hn : sl.length ≤ 40) {i : Nat} (hi : i < sl.length) : 0 ≤ (planL rest sl).getD i 0 ∧ (planL rest sl).getD i 0 ≤ 40 := by
  obtain ⟨j, h1, rfl⟩ := ordN_sur hi
  rw [planL_get hn h1]
  obtain ⟨m, h2, h3, _⟩ := numJ_ex (rest := rest) (sl := sl) j
  omega
end
end Go.Pv
namespace Go.Proofs.Ytjcigpakljfkeaa
open Go.Pv Go.RowKit
set_option maxHeartbeats 8000000
theorem clonePl_any (b n : Nat) (a v : Value) (t : List Int) (T : TypeId) (w : World) (h : Bx w b (plC a v t) T) (hn : n ≤ t.length) (ht : t.length = 40) : Ret Try.prog 58 [.slice (some ⟨b, 2, none⟩) n 40] w fun r w' => Pv.Own 3 w.heap.size w' r (t.take n) := by
  have hlt := h.lt
  have kA : True := trivial
  have kB : True := trivial
  refine ret_of_c Try.func58 rfl Try.ntmps58 (Nat.le_of_ble_eq_true rfl) (by dsimp only [ini, Nat.reduceAdd] <;> exact rfl) ?_
  repeat' (first
      | ((with_reducible apply W_op); exact rfl; exact rfl; exact r_eqNil rfl)
      | ((first | ((with_reducible apply W_op); exact rfl; exact rfl)); (first | ((with_reducible apply r_move); ((conv => lhs; whnf) <;> exact rfl)) | ((with_reducible apply r_assign); ((conv => lhs; whnf) <;> exact rfl))))
      | (clear kA; (with_reducible apply W_bs0); intro b0c wq hbc he hnq; have hsz := he.size; rw [← hnq] at hbc; have hltb := (OwnV.lt hbc b0c rfl).2)
      | (clear kB; refine W_appendVa (w0 := w) (a := ⟨b, 2, none⟩) (cap := 40) (v := .slice (some ⟨b0c, 0, none⟩) 0 0) (base := b0c) (xs := []) (ys := (t.take n).map (Value.int .i64)) rfl rfl hbc (by simp [Nat.min_eq_left hn]; rfl) (fun j q hj => by rw [add_mk]; exact (Bx.cell (Bx.ex (by repeat (first | assumption | exact Ex.refl _ | (refine Ex.trans ?_ (by assumption)) | (refine Ex.of_grown ?_ (by assumption) (by intro k hk; cases hk; omega)))) h) _).trans (plC_cell hj)) (fun q hq => by obtain ⟨z, -, rfl⟩ := List.mem_map.1 hq; rfl) (by simp only [List.length_map, List.length_take, List.length_nil]; omega) (by repeat (first | assumption | exact Ex.refl _ | (refine Ex.trans ?_ (by assumption)) | (refine Ex.of_grown ?_ (by assumption) (by intro k hk; cases hk; omega)))) (by omega) (by omega) ?_; intro va wq hoa hel; rw [List.nil_append] at hoa; have he : Ex w wq := hel; have hsz := he.size; have hva1 := OwnV.one hoa)
      | (with_reducible apply W_nil)
      | (with_reducible apply c_seq)
      | ((with_reducible apply c_region); kernel_rfl)
      | (with_reducible apply n_nq)
      | (with_reducible apply c_skip)
      | (with_reducible apply c_ret)
      | ((with_reducible apply c_cond_false); exact rfl)
      | (with_reducible apply n_then)
      | ((with_reducible apply p_ret1); exact rfl; exact rfl; ((conv => lhs; whnf) <;> exact rfl); refine ⟨_, rfl, ?_, (by repeat (first | assumption | exact Ex.refl _ | (refine Ex.trans ?_ (by assumption)) | (refine Ex.of_grown ?_ (by assumption) (by intro k hk; cases hk; omega))))⟩))
  exact Pv.Own.mono (Pv.Own.ofV (OwnV.ex (by repeat (first | assumption | exact Ex.refl _ | (refine Ex.trans ?_ (by assumption)) | (refine Ex.of_grown ?_ (by assumption) (by intro k hk; cases hk; omega)))) hoa) rfl) (by omega)
theorem Passes_any (rest : Int) (v : Value) (sl : List (Int × Int)) (w : World) (h : Prs w v sl) : Ret Try.prog 22 [.agg #[.int .i64 rest, v]] w fun r w' => ∃ u, r = .tuple #[u, .int .i64 (if jobErr rest sl = 0 then passL (planL rest sl) else 0), .int .i64 (jobErr rest sl)] ∧ Ints w' u (if jobErr rest sl = 0 then planL rest sl else []) := by
  have hv1 := h.one
  have hol := ordL_len sl
  have tA : True := trivial
  refine ret_of_c Try.func22 rfl Try.ntmps22 (Nat.le_of_ble_eq_true rfl) (by dsimp only [ini, Nat.reduceAdd] <;> exact rfl) ?_
  repeat' (first
      | (clear tA; (have tB : True := trivial); have hE : jobErr rest sl = 0 := (by omega); have hji := job_inv hE; (with_reducible apply W_storeA); exact rfl; exact (by repeat (first | assumption | ((with_reducible apply Bx.grownS); assumption; (first | omega | exact Bx.ne (by assumption) (by omega))) | ((with_reducible apply Bx.below); assumption; omega) | ((with_reducible apply Bx.ex); assumption))); exact rfl; exact rfl; exact rfl; exact plC_ones rfl hv1; intro wq hbq hgq; have he : Ex w wq := (by repeat (first | assumption | exact Ex.refl _ | (refine Ex.trans ?_ (by assumption)) | (refine Ex.of_grown ?_ (by assumption) (by intro k hk; cases hk; omega)))); have hsz := he.size; have hgz := hgq.size)
      | (refine W_op rfl rfl (r_lenR rfl (rowN hrow)) ?_)
      | (refine W_indexRw (f := encN sl) (n := 3) (i := k) (0 : Nat) (fun _ => rfl) (by decide) rfl (rowN hrow) rfl (by omega) ?_; intro pb po hpc; have hpo : Cells _ _ (encN sl (ordN sl k)) := hpc; have hok : ordN sl k < sl.length := ordN_lt (by omega); have hwk := he)
      | ((with_reducible apply W_op); exact rfl; exact rfl; exact r_loadA rfl hpo rfl)
      | (have hx6 : Bx wq b6 (plC (.int .i64 rest) v (planTo rest sl k)) 102 := (by repeat (first | assumption | ((with_reducible apply Bx.grownS); assumption; (first | omega | exact Bx.ne (by assumption) (by omega))) | ((with_reducible apply Bx.below); assumption; omega) | ((with_reducible apply Bx.ex); assumption))); have hwk := he; have hrow := OwnR.ex (show Ex wr wq from Ex.of_grown (by assumption) hgq (by intro k hk; cases hk; omega)) hrow; refine c_mix (id := 8) [] [0, 1, 2, 3, 4, 5, 6, 7] [8] [false, false, false, false, false, false, false, false, false] [true, true, true, true, true, true, true, true, false] [none, none, none, none, none, none, none, none, some true] (by kernel_rfl) (by kernel_rfl) (by kernel_rfl) (by kernel_rfl) (by kernel_rfl) (by kernel_rfl) (by dsimp only [sel] <;> exact rfl) (by dsimp only [sel] <;> exact rfl) (by dsimp only [selT] <;> exact rfl) ?_)
      | (refine W_store (v := .int .i64 (numJ rest sl k)) rfl (Bx.ex (by repeat (first | assumption | exact Ex.refl _ | (refine Ex.trans ?_ (by assumption)) | (refine Ex.of_grown ?_ (by assumption) (by intro k hk; cases hk; omega)))) hx6 : Bx _ _ (plC (.int .i64 rest) v (planTo rest sl k)) _) (plC_lt (by rw [planTo_len]; omega)) rfl rfl ?_; intro wq hbq hgq; rw [plC_set] at hbq; have hrow := OwnR.grownS hgq hB6 (OwnR.ex (by assumption) hrow); have he : Ex w wq := (by repeat (first | assumption | exact Ex.refl _ | (refine Ex.trans ?_ (by assumption)) | (refine Ex.of_grown ?_ (by assumption) (by intro k hk; cases hk; omega)))); have hsz := he.size; have hgz := hgq.size)
      | ((with_reducible apply W_op); exact rfl; exact rfl; exact r_sliceArH (k := sl.length) rfl rfl (by omega))
      | (clear tB; have hkn : k = sl.length := (by omega); refine W_call (clonePl_any b6 sl.length _ v (planTo rest sl sl.length) _ _ (by rw [← hkn]; exact hx6) (by rw [planTo_len]; omega) (planTo_len _ _ _)) rfl ?_; rintro vq wq hown he; have hsz := he.size; have hpl : Ints wq vq (planL rest sl) := hown.ints)
      | ((first | ((with_reducible apply W_op); exact rfl; exact rfl) | ((with_reducible apply WQ_op); exact rfl; exact rfl; intro wq he) | ((with_reducible apply WM_op); exact rfl; exact rfl; intro wq he) | ((with_reducible apply WB_op); exact rfl; exact rfl; intro wq)); (first | ((with_reducible apply r_indexArr); exact rfl; exact rfl; omega) | ((with_reducible apply r_move); ((conv => lhs; whnf) <;> exact rfl)) | ((with_reducible apply r_assign); ((conv => lhs; whnf) <;> exact rfl)) | ((with_reducible apply r_fieldAddr); exact rfl) | ((with_reducible apply r_load); exact rfl; exact rfl; (first | assumption | exact (Bx.cell (by repeat (first | assumption | ((with_reducible apply Bx.grownS); assumption; (first | omega | exact Bx.ne (by assumption) (by omega))) | ((with_reducible apply Bx.below); assumption; omega) | ((with_reducible apply Bx.ex); assumption))) _).trans rfl | exact Ex.cell (by assumption) (by assumption))) | ((with_reducible apply r_loadA); exact rfl; (first | assumption | exact Bx.cells (by repeat (first | assumption | ((with_reducible apply Bx.grownS); assumption; (first | omega | exact Bx.ne (by assumption) (by omega))) | ((with_reducible apply Bx.below); assumption; omega) | ((with_reducible apply Bx.ex); assumption))) | exact Cells.ex (by assumption) (by assumption)); exact rfl) | ((with_reducible apply r_lss); exact rfl; exact rfl) | ((with_reducible apply r_neq); exact rfl; exact rfl) | ((with_reducible apply r_add); exact rfl; exact rfl; omega) | ((with_reducible apply r_lenPrs); ((conv => lhs; whnf) <;> exact rfl); (focus ((repeat (first | assumption | ((with_reducible apply OwnR.grownS); assumption; omega) | ((with_reducible apply Row.ex); assumption) | ((with_reducible apply OwnR.ex); assumption) | ((with_reducible apply Bx.grownS); assumption; (first | omega | exact Bx.ne (by assumption) (by omega))) | ((with_reducible apply Bx.below); assumption; omega) | ((with_reducible apply Own.grownS); assumption; omega) | ((with_reducible apply Bx.ex); assumption) | ((with_reducible apply IntsK.ex); assumption) | ((with_reducible apply Own.ex); assumption) | ((with_reducible apply Prs.ex); assumption))); done))) | ((with_reducible apply r_loadSub); exact rfl; (focus ((repeat (first | assumption | ((with_reducible apply Bx.grownS); assumption; (first | omega | exact Bx.ne (by assumption) (by omega))) | ((with_reducible apply Bx.below); assumption; omega) | ((with_reducible apply Bx.ex); assumption))); done)); ((simp only [Nat.add_zero, Nat.zero_add, Nat.reduceAdd, List.drop_zero, List.drop_succ_cons, List.take_succ_cons, List.take_zero]) <;> exact rfl); exact rfl)))
      | (refine W_callv (check_any rest v sl _ (by repeat (first | assumption | ((with_reducible apply OwnR.grownS); assumption; omega) | ((with_reducible apply Row.ex); assumption) | ((with_reducible apply OwnR.ex); assumption) | ((with_reducible apply Bx.grownS); assumption; (first | omega | exact Bx.ne (by assumption) (by omega))) | ((with_reducible apply Bx.below); assumption; omega) | ((with_reducible apply Own.grownS); assumption; omega) | ((with_reducible apply Bx.ex); assumption) | ((with_reducible apply IntsK.ex); assumption) | ((with_reducible apply Own.ex); assumption) | ((with_reducible apply Prs.ex); assumption)))) rfl (fun wq he => ?_); have hsz := he.size)
      | (refine W_callv (unplanned_any rest v _ hv1) rfl (fun wq he => ?_); have hsz := he.size)
      | (refine W_call (inOrder_any rest v sl _ (by repeat (first | assumption | ((with_reducible apply OwnR.grownS); assumption; omega) | ((with_reducible apply Row.ex); assumption) | ((with_reducible apply OwnR.ex); assumption) | ((with_reducible apply Bx.grownS); assumption; (first | omega | exact Bx.ne (by assumption) (by omega))) | ((with_reducible apply Bx.below); assumption; omega) | ((with_reducible apply Own.grownS); assumption; omega) | ((with_reducible apply Bx.ex); assumption) | ((with_reducible apply IntsK.ex); assumption) | ((with_reducible apply Own.ex); assumption) | ((with_reducible apply Prs.ex); assumption))) (by omega)) rfl ?_; rintro vq wq hrow he; have hsz := he.size)
      | ((with_reducible apply WM_op); exact rfl; exact rfl; (intro wq he; exact r_loadA rfl (Bx.cells (Bx.ex he hx6)) (by rw [plC_len, planTo_len])))
      | (refine WM_callv (fun wq he => smallest_any rest _ _ v sl (planTo rest sl k) _ (Prs.ex (Ex.trans hwk he) h) hji.2.1 (planTo_len _ _ _) ⟨⟨hji.1.1, by omega⟩, fun j hj => ⟨by have := hji.2.2 j hj; omega, (hji.2.2 j hj).2.2⟩, by have := hji.2.2 _ hok; omega, (hji.2.2 _ hok).2.2⟩) rfl ?_)
      | (refine W_callv (passesOf_any _ (planL rest sl) _ hpl (fun j hj => by have := planL_bd (rest := rest) hji.2.1 (i := j) (by rwa [planL_len hji.2.1] at hj); omega)) rfl (fun wq he => ?_); have hsz := he.size)
      | ((with_reducible apply p_ret3); exact rfl; exact rfl; ((conv => lhs; whnf) <;> exact rfl); ((conv => lhs; whnf) <;> exact rfl); ((conv => lhs; whnf) <;> exact rfl); refine ⟨_, rfl, ?_, (by repeat (first | assumption | exact Ex.refl _ | (refine Ex.trans ?_ (by assumption)) | (refine Ex.of_grown ?_ (by assumption) (by intro k hk; cases hk; omega))))⟩)
      | ((with_reducible (show C _ _ _ _ _ _)); refine c_loopG (fun (k : Nat) ps wr => ∃ b1 : Nat, ∃ b6 : Nat, ∃ B : Nat, ∃ r : Value, ∃ i : Int, ps = [(1, .pointer (some ⟨b1, 0, none⟩)), (6, .pointer (some ⟨b6, 0, none⟩)), (17, r), (18, .int .i64 (ordL sl).length), (19, .int .i64 i)] ∧ i = k ∧ k ≤ sl.length ∧ w.heap.size ≤ b1 ∧ w.heap.size ≤ b6 ∧ b1 ≠ b6 ∧ b1 < B ∧ b6 < B ∧ B ≤ wr.heap.size ∧ Bx wr b1 [.int .i64 rest, v] 24 ∧ Bx wr b6 (plC (.int .i64 rest) v (planTo rest sl k)) 102 ∧ OwnR (encN sl) 3 107 B wr r (ordL sl) ∧ Ex w wr) (fun k => sl.length - k) 0 _ ⟨_, _, _, _, _, rfl, rfl, Nat.zero_le _, by omega, by omega, by omega, by omega, by omega, by omega, (by repeat (first | assumption | ((with_reducible apply Bx.grownS); assumption; (first | omega | exact Bx.ne (by assumption) (by omega))) | ((with_reducible apply Bx.below); assumption; omega) | ((with_reducible apply Bx.ex); assumption))), (by repeat (first | assumption | ((with_reducible apply Bx.grownS); assumption; (first | omega | exact Bx.ne (by assumption) (by omega))) | ((with_reducible apply Bx.below); assumption; omega) | ((with_reducible apply Bx.ex); assumption))), hrow, (by repeat (first | assumption | exact Ex.refl _ | (refine Ex.trans ?_ (by assumption)) | (refine Ex.of_grown ?_ (by assumption) (by intro k hk; cases hk; omega))))⟩ ⟨rfl, rfl, rfl, rfl, rfl, trivial⟩ (by ((conv => lhs; whnf) <;> exact rfl)) (by ((conv => lhs; whnf) <;> exact rfl)) ?_; rintro J hJ k u ps wr ⟨b1, b6, B, r, i, rfl, rfl, hk, hb1, hb6, hne, hB1, hB6, hBs, hx1, hx6, hrow, he⟩; have hsz := he.size)
      | ((with_reducible (show Exit.then _ _ _ _ _)); refine n_roundG (k + 1) (hJ _ _ _ _ ⟨_, _, _, _, _, rfl, by omega, by omega, hb1, hb6, hne, hB1, hB6, by omega, (by repeat (first | assumption | ((with_reducible apply Bx.grownS); assumption; (first | omega | exact Bx.ne (by assumption) (by omega))) | ((with_reducible apply Bx.below); assumption; omega) | ((with_reducible apply Bx.ex); assumption))), hbq, hrow, (by repeat (first | assumption | exact Ex.refl _ | (refine Ex.trans ?_ (by assumption)) | (refine Ex.of_grown ?_ (by assumption) (by intro k hk; cases hk; omega))))⟩ ⟨rfl, rfl, rfl, rfl, rfl, trivial⟩ rfl) (by omega))
      | (with_reducible apply W_nil)
      | (with_reducible apply WM_nil; intro wq he; have hsz := he.size)
      | (with_reducible apply WB_nil)
      | (with_reducible apply WT_nil)
      | (with_reducible apply WT_cons)
      | (with_reducible apply t_sink)
      | ((with_reducible apply W_box); exact rfl; exact rfl; intro bq wq hbq he hnq; have hltq := Bx.lt hbq; have hsz := he.size)
      | ((with_reducible apply W_alloc); exact rfl; intro bq wq hbq he hnq; have hltq := Bx.lt hbq; have hsz := he.size)
      | ((with_reducible apply W_storeA); exact rfl; (focus ((repeat (first | assumption | ((with_reducible apply Bx.grownS); assumption; (first | omega | exact Bx.ne (by assumption) (by omega))) | ((with_reducible apply Bx.below); assumption; omega) | ((with_reducible apply Bx.ex); assumption))); done)); exact rfl; exact rfl; exact rfl; (repeat' (first | exact trivial | (first | exact rfl | assumption | exact IntsK.one (by assumption) | exact Prs.one (by assumption) | exact Own.one (by assumption) | exact Row.one (by assumption) | exact OwnR.one (by assumption)) | constructor)); intro wq hbq hgq; have he : Ex w wq := (by repeat (first | assumption | exact Ex.refl _ | (refine Ex.trans ?_ (by assumption)) | (refine Ex.of_grown ?_ (by assumption) (by intro k hk; cases hk; omega)))); have hsz := he.size; have hgz := hgq.size)
      | (with_reducible apply c_seq)
      | ((with_reducible apply c_region); kernel_rfl)
      | (with_reducible apply n_nq)
      | (with_reducible apply c_block)
      | (with_reducible apply c_skip)
      | (with_reducible apply c_ret)
      | (with_reducible apply c_exit)
      | ((with_reducible apply c_cond_dec); exact rfl; intro _; rotate_left 1; intro _)
      | (with_reducible apply n_then)
      | (with_reducible apply n_block)
      | (with_reducible apply e_then)
      | (with_reducible apply e_block)
      | (with_reducible apply r_then))
  · rw [hE, if_pos rfl, if_pos rfl]
    exact ⟨_, rfl, IntsK.ex (by repeat (first | assumption | exact Ex.refl _ | (refine Ex.trans ?_ (by assumption)) | (refine Ex.of_grown ?_ (by assumption) (by intro k hk; cases hk; omega)))) hpl⟩
  · rw [if_neg (by assumption), if_neg (by assumption)]
    exact ⟨_, rfl, (Pv.Own.nil 3 0 _).ints⟩
end Go.Proofs.Ytjcigpakljfkeaa
