/-
  (rows) What this text proves: the law's small functions: code, part, coding, the examples, numbers. Conditions: as stated in each.
-/
import Derived.Laws.StructEq
import Derived.Test.YtbmjigneekodnaaVMe
import Derived.Test.YtbmjigneekodnaaVLr
import Derived.Test.YtbmjigneekodnaaY
set_option linter.unusedVariables false
set_option linter.unusedSimpArgs false

namespace Go.Pv
open Go.RowKit
section
variable {P : Program} {ol rest : List Oper} {Q : Exit → Act → World → Prop} {l : St} {w : World} {od : Option Nat} {ty : TypeId} {pos : String} {af : Array Edge} {T : TypeId}
theorem r_eqC {op : BinOp} {T T2 : TypeId} {x y : Operand} {vx vy : Value} (r : Value) (hx : ev l x = vx) (hy : ev l y = vy) (hg : (eqGuard op T x y vx vy).run P w = .ok () w) (h : (binOp op T vx vy).run P w = .ok r w) : Runs P ⟨od, .binOp op T x y T2, ty, pos, af, none⟩ l w r := by
  simp only [Runs, execOp, hx, hy, Sem.run_bind, hg, Result.andThen_ok, h, Sem.run_pure]
theorem W_bsR9 {d b : Nat} {x0 x1 x2 : Operand} {e : TypeId} {z0 z1 z2 v0 v1 v2 v3 v4 v5 v6 v7 v8 : Value} [hT : Und P T (.slice e)] [hz : Sz P e (.agg #[z0, z1, z2]) 3 b] (hx : ev l x0 = .agg #[v0, v1, v2]) (hy : ev l x1 = .agg #[v3, v4, v5]) (hy2 : ev l x2 = .agg #[v6, v7, v8])
    (K : ∀ b w', Bx w' b [v0, v1, v2, v3, v4, v5, v6, v7, v8] e → Ex w w' → b = w.heap.size → W P ol Q rest (upd l d (.slice (some ⟨b, 0, none⟩) 3 3)) w') : W P ol Q (⟨some d, .buildSlice T 3 #[(0, x0), (1, x1), (2, x2)], ty, pos, af, none⟩ :: rest) l w := by
  refine W_run (w' := w.alloc (.cells #[v0, v1, v2, v3, v4, v5, v6, v7, v8] e)) rfl rfl ?_ (K w.heap.size _ (Bx.new w [v0, v1, v2, v3, v4, v5, v6, v7, v8] e) (Ex.alloc _ _) rfl)
  have hfill : Instr.fill (fun i => some (i * 3, 3)) ((Array.range (3 * 3)).map ((#[z0, z1, z2] : Array Value)[· % (#[z0, z1, z2] : Array Value).size]!)) [(0, .agg #[v0, v1, v2]), (1, .agg #[v3, v4, v5]), (2, .agg #[v6, v7, v8])] = some #[v0, v1, v2, v3, v4, v5, v6, v7, v8] := by
    have hr : Array.range (3 * 3) = #[0, 1, 2, 3, 4, 5, 6, 7, 8] := by decide
    simp [hr, Instr.fill, Value.cells]
  have h1 : ¬ (3 * 3 > 2 ^ 24) := by decide
  have h2 : ¬ (3 * 3 = 0) := by decide
  simp only [execOp, Instr.buildSlice, Sem.run_bind, hT.run, hz.run, Result.andThen_ok, h1, h2, if_false, hz.zero, Sem.run_pure, List.map_toArray, List.map_cons, List.map_nil, hx, hy, hy2, Value.cells]
  rw [hfill]
  rfl
end
/-- A guarded operation that looks at no memory and is wanted: it may be taken first. -/
theorem XT_pureG {P : Program} {ol : List Oper} {l : St} {w : World} {qs qb : List Nat} {Q : Act → World → Prop} {n t d j dj : Nat} {want b : Bool} {op : Op} {T : TypeId} {pos : String} {af : Array Edge} {v : Value} {listed listed' : Array Bool} (hp : pureX ol.toArray qs qb listed t = true) (ho : ol[t]? = some ⟨some d, op, T, pos, af, some (j, want)⟩) (hj : dstAt ol j = some dj) (hv : nth l dj = .bool b) (hne : (b == want) = true) (hl : listed.setIfInBounds t true = listed')
    (hr : ∀ w', Runs P ⟨some d, op, T, pos, af, none⟩ l w' v) (k : XT P ol qs qb Q n listed' (upd l d v) w) : XT P ol qs qb Q (n + 1) listed l w := by
  subst hl
  simp only [pureX, Bool.and_eq_true, List.contains_iff_mem] at hp
  obtain ⟨⟨⟨h1, h2⟩, h3⟩, h4⟩ := hp
  have ho' : ol.toArray[t]? = some ⟨some d, op, T, pos, af, some (j, want)⟩ := by simpa using ho
  unfold XT at k ⊢
  refine X_firstF (v := v) ho' h2 (Region.noSelect_spec h1) n listed (act l) w (Region.free_spec ho' h4) h3 (.inl ⟨by rw [wanted_of (o := ⟨some d, op, T, pos, af, some (j, want)⟩) rfl hj hv]; exact hne, fun w' => ?_⟩) ?_
  · have := hr w'
    unfold Runs at this
    rw [eval_act]; exact this
  · rw [put_act]; exact k
theorem act_swap (l : St) (d d' : Nat) (u v : Value) (h : d ≠ d') : act (upd (upd l d' u) d v) = act (upd (upd l d v) d' u) := by
  rw [← put_act, ← put_act, ← put_act, ← put_act]
  unfold Act.put
  simp only
  congr 1
  exact Array.setIfInBounds_comm _ _ (Ne.symm h)
theorem XT_act {P : Program} {ol : List Oper} {l l' : St} {w : World} {qs qb : List Nat} {Q : Act → World → Prop} {n : Nat} {listed : Array Bool} (e : act l = act l') (h : XT P ol qs qb Q n listed l w) : XT P ol qs qb Q n listed l' w := by
  unfold XT at h ⊢
  rw [← e]; exact h
/-- A guarded load and a guarded call, which may come in either order: one way is enough. -/
theorem XT_lc {P : Program} {ol : List Oper} {l : St} {w : World} {qs qb : List Nat} {Q : Act → World → Prop} {n t t' d d' j dj f : Nat} {want b : Bool} {T T' : TypeId} {x : Operand} {xs : List Operand} {vs : List Value} {tys : Array TypeId} {pos pos' : String} {af af' : Array Edge} {u v : Value} {listed l1 l1' l2 : Array Bool} [Fun P f]
    (hr : Region.ready .any ol.toArray listed = [t, t']) (ho : ol[t]? = some ⟨some d, .load T x, T, pos, af, some (j, want)⟩) (ho' : ol[t']? = some ⟨some d', .call { callee := .value (.func f), args := xs.toArray, argTypes := tys }, T', pos', af', some (j, want)⟩)
    (hs : flg ol.toArray qs qb t = true) (hs' : flg ol.toArray qs qb t' = true) (hl1 : listed.setIfInBounds t true = l1) (hl1' : listed.setIfInBounds t' true = l1') (hr1 : Region.ready .any ol.toArray l1 = [t']) (hr1' : Region.ready .any ol.toArray l1' = [t]) (hl2 : l1.setIfInBounds t' true = l2) (hl2' : l1'.setIfInBounds t true = l2)
    (hj : dstAt ol j = some dj) (hv : nth l dj = .bool b) (hvd : nth (upd l d v) dj = .bool b) (hvd' : nth (upd l d' u) dj = .bool b) (hne : (b == want) = true) (hdd : d ≠ d')
    (hload : ∀ w', Ex w w' → Runs P ⟨some d, .load T x, T, pos, af, none⟩ l w' v) (hload2 : ∀ w', Ex w w' → Runs P ⟨some d, .load T x, T, pos, af, none⟩ (upd l d' u) w' v)
    (hc : Ret P f vs w fun r _ => r = u) (hx : evs l xs = vs) (hx2 : evs (upd l d v) xs = vs) (k : ∀ w1, Ex w w1 → XT P ol qs qb Q n l2 (upd (upd l d v) d' u) w1) : XT P ol qs qb Q (n + 1 + 1) listed l w := by
  have wn : ∀ {Q : Exit → Act → World → Prop} {l : St} {w : World}, Q .normal (act l) w → W P ol Q [] l w := fun h => by unfold W wpList; exact h
  refine XT_two hr ho ho' hs hs' hl1 hl1' ?_ ?_
  · refine W_take hj hv hne (W_op rfl rfl (hload w (Ex.refl w)) ?_)
    refine wn (x_sink (XT_one hr1 ho' hs' hl2 ?_))
    refine W_take hj hvd hne (W_callv hc hx2 fun w1 e => ?_)
    exact wn (x_sink (k w1 e))
  · refine W_take hj hv hne (W_callv hc hx fun w1 e => ?_)
    refine wn (x_sink (XT_one hr1' ho hs hl2' ?_))
    refine W_take hj hvd' hne (W_op rfl rfl (hload2 w1 e) ?_)
    exact wn (x_sink (XT_act (act_swap l d d' u v hdd).symm (k w1 e)))
def cdOf (xs : List Int) (k : Nat) : T3 := ((k : Int), xs.getD k 0, xs.getD k 0)
theorem cd_next (xs : List Int) (k : Nat) : (List.range k).map (cdOf xs) ++ [cdOf xs k] = (List.range (k + 1)).map (cdOf xs) := by simp [List.range_succ]
theorem Row.own9 {w : World} {b : Nat} {E : TypeId} {x y z : T3} (h : Bx w b [.int .i64 x.1, .int .i64 x.2.1, .int .i64 x.2.2, .int .i64 y.1, .int .i64 y.2.1, .int .i64 y.2.2, .int .i64 z.1, .int .i64 z.2.1, .int .i64 z.2.2] E) : Row cC 3 w (.slice (some ⟨b, 0, none⟩) 3 3) [x, y, z] :=
  Row.built (f := cC) (fun _ => rfl) (xs := [x, y, z]) h rfl (by simp)
end Go.Pv
namespace Go.Proofs.Ytbmjigneekodnaa
open Go.Pv Go.RowKit
set_option maxHeartbeats 8000000
set_option maxRecDepth 20000

theorem code_any (s lo hi : Int) (w : World) : Ret Try.prog 31 [.int .i64 s, .int .i64 lo, .int .i64 hi] w fun r _ => r = vC (s, lo, hi) := by
  refine ret_of_c Try.func31 rfl Try.ntmps31 (Nat.le_of_ble_eq_true rfl) (by dsimp only [ini, Nat.reduceAdd] <;> exact rfl) ?_
  repeat' (first
      | ((with_reducible apply W_op); exact rfl; exact rfl; exact r_bldE (by kernel_rfl) rfl rfl rfl)
      | ((first | ((with_reducible apply W_op); exact rfl; exact rfl)); (first | ((with_reducible apply r_move); ((conv => lhs; whnf) <;> exact rfl)) | ((with_reducible apply r_build2); ((conv => lhs; whnf) <;> exact rfl); ((conv => lhs; whnf) <;> exact rfl); (first | exact rfl | assumption | exact IntsK.one (by assumption) | exact Prs.one (by assumption) | exact Own.one (by assumption) | exact Row.one (by assumption) | exact OwnR.one (by assumption)); (first | exact rfl | assumption | exact IntsK.one (by assumption) | exact Prs.one (by assumption) | exact Own.one (by assumption) | exact Row.one (by assumption) | exact OwnR.one (by assumption)); exact rfl; exact rfl; ((simp only [lay, lset, List.replicate_succ, List.replicate_zero]) <;> exact rfl))))
      | (with_reducible apply W_nil)
      | ((with_reducible apply W_alloc); exact rfl; intro bq wq hbq he hnq; have hltq := Bx.lt hbq; have hsz := he.size)
      | ((with_reducible apply W_storeA); exact rfl; (focus ((repeat (first | assumption | ((with_reducible apply Bx.grownS); assumption; (first | omega | exact Bx.ne (by assumption) (by omega))) | ((with_reducible apply Bx.below); assumption; omega) | ((with_reducible apply Bx.ex); assumption))); done)); exact rfl; exact rfl; exact rfl; (repeat' (first | exact trivial | (first | exact rfl | assumption | exact IntsK.one (by assumption) | exact Prs.one (by assumption) | exact Own.one (by assumption) | exact Row.one (by assumption) | exact OwnR.one (by assumption)) | constructor)); intro wq hbq hgq; have he : Ex w wq := (by repeat (first | assumption | exact Ex.refl _ | (refine Ex.trans ?_ (by assumption)) | (refine Ex.of_grown ?_ (by assumption) (by intro k hk; cases hk; omega)))); have hsz := he.size; have hgz := hgq.size)
      | (with_reducible apply c_seq)
      | (with_reducible apply c_region)
      | (with_reducible apply c_ret)
      | (with_reducible apply n_then)
      | ((with_reducible apply p_retc); exact rfl; exact inferInstance; exact inferInstance; exact rfl; (focus ((repeat (first | assumption | ((with_reducible apply Bx.grownS); assumption; (first | omega | exact Bx.ne (by assumption) (by omega))) | ((with_reducible apply Bx.below); assumption; omega) | ((with_reducible apply Bx.ex); assumption))); done)); exact rfl; refine ⟨_, rfl, ?_, (by repeat (first | assumption | exact Ex.refl _ | (refine Ex.trans ?_ (by assumption)) | (refine Ex.of_grown ?_ (by assumption) (by intro k hk; cases hk; omega))))⟩))
  all_goals rfl
theorem part_any (n d : Int) (w : World) : Ret Try.prog 27 [.int .i64 n, .int .i64 d] w fun r _ => r = .agg #[.int .i64 n, .int .i64 d] := by
  refine ret_of_c Try.func27 rfl Try.ntmps27 (Nat.le_of_ble_eq_true rfl) (by dsimp only [ini, Nat.reduceAdd] <;> exact rfl) ?_
  repeat' (first
      | ((first | ((with_reducible apply W_op); exact rfl; exact rfl)); (first | ((with_reducible apply r_move); ((conv => lhs; whnf) <;> exact rfl)) | ((with_reducible apply r_build2); ((conv => lhs; whnf) <;> exact rfl); ((conv => lhs; whnf) <;> exact rfl); (first | exact rfl | assumption | exact IntsK.one (by assumption) | exact Prs.one (by assumption) | exact Own.one (by assumption) | exact Row.one (by assumption) | exact OwnR.one (by assumption)); (first | exact rfl | assumption | exact IntsK.one (by assumption) | exact Prs.one (by assumption) | exact Own.one (by assumption) | exact Row.one (by assumption) | exact OwnR.one (by assumption)); exact rfl; exact rfl; ((simp only [lay, lset, List.replicate_succ, List.replicate_zero]) <;> exact rfl))))
      | (with_reducible apply W_nil)
      | ((with_reducible apply W_alloc); exact rfl; intro bq wq hbq he hnq; have hltq := Bx.lt hbq; have hsz := he.size)
      | ((with_reducible apply W_storeA); exact rfl; (focus ((repeat (first | assumption | ((with_reducible apply Bx.grownS); assumption; (first | omega | exact Bx.ne (by assumption) (by omega))) | ((with_reducible apply Bx.below); assumption; omega) | ((with_reducible apply Bx.ex); assumption))); done)); exact rfl; exact rfl; exact rfl; (repeat' (first | exact trivial | (first | exact rfl | assumption | exact IntsK.one (by assumption) | exact Prs.one (by assumption) | exact Own.one (by assumption) | exact Row.one (by assumption) | exact OwnR.one (by assumption)) | constructor)); intro wq hbq hgq; have he : Ex w wq := (by repeat (first | assumption | exact Ex.refl _ | (refine Ex.trans ?_ (by assumption)) | (refine Ex.of_grown ?_ (by assumption) (by intro k hk; cases hk; omega)))); have hsz := he.size; have hgz := hgq.size)
      | (with_reducible apply c_seq)
      | (with_reducible apply c_region)
      | (with_reducible apply c_ret)
      | (with_reducible apply n_then)
      | ((with_reducible apply p_retc); exact rfl; exact inferInstance; exact inferInstance; exact rfl; (focus ((repeat (first | assumption | ((with_reducible apply Bx.grownS); assumption; (first | omega | exact Bx.ne (by assumption) (by omega))) | ((with_reducible apply Bx.below); assumption; omega) | ((with_reducible apply Bx.ex); assumption))); done)); exact rfl; refine ⟨_, rfl, ?_, (by repeat (first | assumption | exact Ex.refl _ | (refine Ex.trans ?_ (by assumption)) | (refine Ex.of_grown ?_ (by assumption) (by intro k hk; cases hk; omega))))⟩))
  all_goals rfl
theorem coding_any (v : Value) (xs : List Int) (w : World) (h : Ints w v xs) (hn : xs.length ≤ 1000) : Ret Try.prog 34 [v] w fun r w' => Row cC 3 w' r ((List.range xs.length).map (cdOf xs)) := by
  have hv1 := h.one
  have tk1 : True := trivial
  refine ret_of_c Try.func34 rfl Try.ntmps34 (Nat.le_of_ble_eq_true rfl) (by dsimp only [ini, Nat.reduceAdd] <;> exact rfl) ?_
  repeat' (first
      | (clear tkA; (have hu1 := OwnR.one hown0); by_cases hkl : k < xs.length; rotate_left 1)
      | (refine WM_indexInt (i := k) (xs := xs) rfl (by repeat (first | assumption | ((with_reducible apply OwnR.grownS); assumption; omega) | ((with_reducible apply Row.ex); assumption) | ((with_reducible apply OwnR.ex); assumption) | ((with_reducible apply Bx.grownS); assumption; (first | omega | exact Bx.ne (by assumption) (by omega))) | ((with_reducible apply Bx.below); assumption; omega) | ((with_reducible apply Own.grownS); assumption; omega) | ((with_reducible apply Bx.ex); assumption) | ((with_reducible apply IntsK.ex); assumption) | ((with_reducible apply Own.ex); assumption) | ((with_reducible apply Prs.ex); assumption))) rfl (by omega) ?_; intro pq hpq)
      | (refine W_bsR3 rfl ?_; intro bq wq hbq he hnq; have hltq := Bx.lt hbq; have hsz := he.size)
      | ((with_reducible apply W_appendR (f := cC) (n := 3) (m := cdOf xs k)); exact fun _ => rfl; decide; exact rfl; ((conv => lhs; whnf) <;> exact rfl); (focus ((repeat (first | assumption | ((with_reducible apply OwnR.grownS); assumption; omega) | ((with_reducible apply Row.ex); assumption) | ((with_reducible apply OwnR.ex); assumption) | ((with_reducible apply Bx.grownS); assumption; (first | omega | exact Bx.ne (by assumption) (by omega))) | ((with_reducible apply Bx.below); assumption; omega) | ((with_reducible apply Own.grownS); assumption; omega) | ((with_reducible apply Bx.ex); assumption) | ((with_reducible apply IntsK.ex); assumption) | ((with_reducible apply Own.ex); assumption) | ((with_reducible apply Prs.ex); assumption))); done)); exact rfl; (show Bx _ _ [_, _, _] _); (focus ((repeat (first | assumption | ((with_reducible apply OwnR.grownS); assumption; omega) | ((with_reducible apply Row.ex); assumption) | ((with_reducible apply OwnR.ex); assumption) | ((with_reducible apply Bx.grownS); assumption; (first | omega | exact Bx.ne (by assumption) (by omega))) | ((with_reducible apply Bx.below); assumption; omega) | ((with_reducible apply Own.grownS); assumption; omega) | ((with_reducible apply Bx.ex); assumption) | ((with_reducible apply IntsK.ex); assumption) | ((with_reducible apply Own.ex); assumption) | ((with_reducible apply Prs.ex); assumption))); done)); exact rfl; (simp only [List.length_map, List.length_range]; omega); (focus ((show Ex w _); (repeat (first | assumption | exact Ex.refl _ | (refine Ex.trans ?_ (by assumption)) | (refine Ex.of_grown ?_ (by assumption) (by intro k hk; cases hk; omega)))); done)); omega; (first | omega | exact Bx.lt (by repeat (first | assumption | ((with_reducible apply OwnR.grownS); assumption; omega) | ((with_reducible apply Row.ex); assumption) | ((with_reducible apply OwnR.ex); assumption) | ((with_reducible apply Bx.grownS); assumption; (first | omega | exact Bx.ne (by assumption) (by omega))) | ((with_reducible apply Bx.below); assumption; omega) | ((with_reducible apply Own.grownS); assumption; omega) | ((with_reducible apply Bx.ex); assumption) | ((with_reducible apply IntsK.ex); assumption) | ((with_reducible apply Own.ex); assumption) | ((with_reducible apply Prs.ex); assumption)))); intro vq wq hown he hkq hgq; have hsz := he.size)
      | ((first | ((with_reducible apply W_op); exact rfl; exact rfl) | ((with_reducible apply WQ_op); exact rfl; exact rfl; intro wq he) | ((with_reducible apply WM_op); exact rfl; exact rfl; intro wq he) | ((with_reducible apply WB_op); exact rfl; exact rfl; intro wq)); (first | ((with_reducible apply r_move); ((conv => lhs; whnf) <;> exact rfl)) | ((with_reducible apply r_assign); ((conv => lhs; whnf) <;> exact rfl)) | ((with_reducible apply r_load); exact rfl; exact rfl; (first | assumption | exact (Bx.cell (by repeat (first | assumption | ((with_reducible apply Bx.grownS); assumption; (first | omega | exact Bx.ne (by assumption) (by omega))) | ((with_reducible apply Bx.below); assumption; omega) | ((with_reducible apply Bx.ex); assumption))) _).trans rfl | exact Ex.cell (by assumption) (by assumption))) | ((with_reducible apply r_lss); exact rfl; exact rfl) | ((with_reducible apply r_add); exact rfl; exact rfl; omega) | ((with_reducible apply r_lenInts); ((conv => lhs; whnf) <;> exact rfl); (focus ((repeat (first | assumption | ((with_reducible apply OwnR.grownS); assumption; omega) | ((with_reducible apply Row.ex); assumption) | ((with_reducible apply OwnR.ex); assumption) | ((with_reducible apply Bx.grownS); assumption; (first | omega | exact Bx.ne (by assumption) (by omega))) | ((with_reducible apply Bx.below); assumption; omega) | ((with_reducible apply Own.grownS); assumption; omega) | ((with_reducible apply Bx.ex); assumption) | ((with_reducible apply IntsK.ex); assumption) | ((with_reducible apply Own.ex); assumption) | ((with_reducible apply Prs.ex); assumption))); done)))))
      | (refine c_mix (id := 5) [] [0, 1, 2, 3, 4, 5, 6, 7, 8, 9] [10, 11, 12, 13] [false, false, false, false, false, false, false, false, false, false, false, false, false, false] [true, true, true, true, true, true, true, true, true, true, false, false, false, false] [none, none, none, none, none, none, none, none, none, none, some false, some false, some true, some true] (by kernel_rfl) (by kernel_rfl) (by kernel_rfl) (by kernel_rfl) (by kernel_rfl) (by kernel_rfl) (by dsimp only [sel] <;> exact rfl) (by dsimp only [sel] <;> exact rfl) (by dsimp only [selT] <;> exact rfl) ?_)
      | (refine W_callv (code_any k (xs.getD k 0) (xs.getD k 0) _) rfl (fun wq he => ?_); have hsz := he.size)
      | ((with_reducible (show C _ _ _ _ _)); clear tk1; refine c_loopG (fun (k : Nat) ps wr => ∃ u : Value, ∃ i : Int, ps = [(0, v), (2, .slice none 0 0), (3, u), (4, .int .i64 i)] ∧ i = k ∧ k ≤ xs.length ∧ OwnR cC 3 68 w.heap.size wr u ((List.range k).map (cdOf xs)) ∧ Ex w wr) (fun k => xs.length - k) 0 _ ⟨_, _, rfl, rfl, Nat.zero_le _, OwnR.nil _ _ _, (by repeat (first | assumption | exact Ex.refl _ | (refine Ex.trans ?_ (by assumption)) | (refine Ex.of_grown ?_ (by assumption) (by intro k hk; cases hk; omega))))⟩ ⟨rfl, rfl, rfl, rfl, trivial⟩ (by ((conv => lhs; whnf) <;> exact rfl)) ?_; rintro J hJ k u ps wr ⟨u, i, rfl, rfl, hk, hown0, he⟩; have hsz := he.size; have tkA : True := trivial)
      | ((with_reducible (show Exit.then _ _ _ _ _)); refine n_roundG (k + 1) (hJ _ _ _ _ ⟨_, _, rfl, by omega, by omega, (by rw [← cd_next]; exact (by repeat (first | assumption | ((with_reducible apply OwnR.grownS); assumption; omega) | ((with_reducible apply Row.ex); assumption) | ((with_reducible apply OwnR.ex); assumption) | ((with_reducible apply Bx.grownS); assumption; (first | omega | exact Bx.ne (by assumption) (by omega))) | ((with_reducible apply Bx.below); assumption; omega) | ((with_reducible apply Own.grownS); assumption; omega) | ((with_reducible apply Bx.ex); assumption) | ((with_reducible apply IntsK.ex); assumption) | ((with_reducible apply Own.ex); assumption) | ((with_reducible apply Prs.ex); assumption)))), (by repeat (first | assumption | exact Ex.refl _ | (refine Ex.trans ?_ (by assumption)) | (refine Ex.of_grown ?_ (by assumption) (by intro k hk; cases hk; omega))))⟩ ⟨rfl, rfl, rfl, rfl, trivial⟩ rfl) (by omega))
      | (with_reducible apply W_nil)
      | (with_reducible apply WM_nil; intro wq he; have hsz := he.size)
      | (with_reducible apply WB_nil)
      | (with_reducible apply WT_nil)
      | (with_reducible apply WT_cons)
      | (with_reducible apply t_sink)
      | ((with_reducible apply t_keep); (focus ((repeat (first | assumption | exact Ex.refl _ | (refine Ex.trans ?_ (by assumption)) | (refine Ex.of_grown ?_ (by assumption) (by intro k hk; cases hk; omega)))); done)); intro wq he; have hsz := he.size)
      | (with_reducible apply c_seq)
      | (with_reducible apply c_region)
      | (with_reducible apply c_block)
      | (with_reducible apply c_skip)
      | (with_reducible apply c_ret)
      | (with_reducible apply c_exit)
      | ((with_reducible apply c_cond_dec); exact rfl; intro _; rotate_left 1; intro _)
      | (with_reducible apply n_then)
      | (with_reducible apply n_block)
      | (with_reducible apply e_then)
      | (with_reducible apply e_block)
      | ((with_reducible apply p_ret1); exact rfl; ((conv => lhs; whnf) <;> exact rfl); refine ⟨_, rfl, ?_, (by repeat (first | assumption | exact Ex.refl _ | (refine Ex.trans ?_ (by assumption)) | (refine Ex.of_grown ?_ (by assumption) (by intro k hk; cases hk; omega))))⟩)
      | ((exfalso; omega)))
  have hke : k = xs.length := by omega
  subst hke
  exact OwnR.row (fun _ => rfl) (by repeat (first | assumption | ((with_reducible apply OwnR.grownS); assumption; omega) | ((with_reducible apply Row.ex); assumption) | ((with_reducible apply OwnR.ex); assumption) | ((with_reducible apply Bx.grownS); assumption; (first | omega | exact Bx.ne (by assumption) (by omega))) | ((with_reducible apply Bx.below); assumption; omega) | ((with_reducible apply Own.grownS); assumption; omega) | ((with_reducible apply Bx.ex); assumption) | ((with_reducible apply IntsK.ex); assumption) | ((with_reducible apply Own.ex); assumption) | ((with_reducible apply Prs.ex); assumption)))
theorem B_any (w : World) : Ret Try.prog 35 [] w fun r w' => Row cC 3 w' r exB := by
  refine ret_of_c Try.func35 rfl Try.ntmps35 (Nat.le_of_ble_eq_true rfl) (by dsimp only [ini, Nat.reduceAdd] <;> exact rfl) ?_
  repeat' (first
      | (refine W_bsR9 rfl rfl rfl ?_; intro bq wq hbq he hnq; have hltq := Bx.lt hbq; have hsz := he.size)
      | ((first | ((with_reducible apply W_op); exact rfl; exact rfl)); (first | ((with_reducible apply r_assign); ((conv => lhs; whnf) <;> exact rfl))))
      | (refine W_callv (code_any 0 8 12 _) rfl (fun wq he => ?_); have hsz := he.size)
      | (refine W_callv (code_any 1 9 11 _) rfl (fun wq he => ?_); have hsz := he.size)
      | (refine W_callv (code_any 2 38 42 _) rfl (fun wq he => ?_); have hsz := he.size)
      | (with_reducible apply W_nil)
      | (with_reducible apply c_seq)
      | (with_reducible apply c_region)
      | (with_reducible apply c_ret)
      | (with_reducible apply n_then)
      | ((with_reducible apply p_ret1); exact rfl; ((conv => lhs; whnf) <;> exact rfl); refine ⟨_, rfl, ?_, (by repeat (first | assumption | exact Ex.refl _ | (refine Ex.trans ?_ (by assumption)) | (refine Ex.of_grown ?_ (by assumption) (by intro k hk; cases hk; omega))))⟩))
  exact Row.own9 (x := (0, 8, 12)) (y := (1, 9, 11)) (z := (2, 38, 42)) hbq
theorem C_any (w : World) : Ret Try.prog 33 [] w fun r w' => Row cC 3 w' r Pv.exC := by
  refine ret_of_c Try.func33 rfl Try.ntmps33 (Nat.le_of_ble_eq_true rfl) (by dsimp only [ini, Nat.reduceAdd] <;> exact rfl) ?_
  repeat' (first
      | (refine W_bsR9 rfl rfl rfl ?_; intro bq wq hbq he hnq; have hltq := Bx.lt hbq; have hsz := he.size)
      | ((first | ((with_reducible apply W_op); exact rfl; exact rfl)); (first | ((with_reducible apply r_assign); ((conv => lhs; whnf) <;> exact rfl))))
      | (refine W_callv (code_any 0 5 5 _) rfl (fun wq he => ?_); have hsz := he.size)
      | (refine W_callv (code_any 10 0 30 _) rfl (fun wq he => ?_); have hsz := he.size)
      | (refine W_callv (code_any 20 25 25 _) rfl (fun wq he => ?_); have hsz := he.size)
      | (with_reducible apply W_nil)
      | (with_reducible apply c_seq)
      | (with_reducible apply c_region)
      | (with_reducible apply c_ret)
      | (with_reducible apply n_then)
      | ((with_reducible apply p_ret1); exact rfl; ((conv => lhs; whnf) <;> exact rfl); refine ⟨_, rfl, ?_, (by repeat (first | assumption | exact Ex.refl _ | (refine Ex.trans ?_ (by assumption)) | (refine Ex.of_grown ?_ (by assumption) (by intro k hk; cases hk; omega))))⟩))
  exact Row.own9 (x := (0, 5, 5)) (y := (10, 0, 30)) (z := (20, 25, 25)) hbq
theorem numbers_any (va vb : Value) (a b : List Int) (w : World) (ha : Ints w va a) (hb : Ints w vb b) : Ret Try.prog 32 [va, vb] w fun r _ => r = .bool (decide (a = b)) := by
  have hl1 := ha.len
  have hl2 := hb.len
  have hv1 := ha.one
  have hv2 := hb.one
  refine ret_of_c Try.func32 rfl Try.ntmps32 (Nat.le_of_ble_eq_true rfl) (by dsimp only [ini, Nat.reduceAdd] <;> exact rfl) ?_
  repeat' (first
      | ((first | ((with_reducible apply W_op); exact rfl; exact rfl) | ((with_reducible apply WQ_op); exact rfl; exact rfl; intro wq he) | ((with_reducible apply WM_op); exact rfl; exact rfl; intro wq he) | ((with_reducible apply WB_op); exact rfl; exact rfl; intro wq)); (first | ((with_reducible apply r_move); ((conv => lhs; whnf) <;> exact rfl)) | ((with_reducible apply r_assign); ((conv => lhs; whnf) <;> exact rfl)) | ((with_reducible apply r_load); exact rfl; exact rfl; (first | assumption | exact (Bx.cell (by repeat (first | assumption | ((with_reducible apply Bx.grownS); assumption; (first | omega | exact Bx.ne (by assumption) (by omega))) | ((with_reducible apply Bx.below); assumption; omega) | ((with_reducible apply Bx.ex); assumption))) _).trans rfl | exact Ex.cell (by assumption) (by assumption))) | ((with_reducible apply r_lss); exact rfl; exact rfl) | ((with_reducible apply r_neq); exact rfl; exact rfl) | ((with_reducible apply r_add); exact rfl; exact rfl; omega) | ((with_reducible apply r_lenInts); ((conv => lhs; whnf) <;> exact rfl); (focus ((repeat (first | assumption | ((with_reducible apply OwnR.grownS); assumption; omega) | ((with_reducible apply Row.ex); assumption) | ((with_reducible apply OwnR.ex); assumption) | ((with_reducible apply Bx.grownS); assumption; (first | omega | exact Bx.ne (by assumption) (by omega))) | ((with_reducible apply Bx.below); assumption; omega) | ((with_reducible apply Own.grownS); assumption; omega) | ((with_reducible apply Bx.ex); assumption) | ((with_reducible apply IntsK.ex); assumption) | ((with_reducible apply Own.ex); assumption) | ((with_reducible apply Prs.ex); assumption))); done)))))
      | ((with_reducible (show C _ _ _ _ _)); refine c_loopG (fun (k : Nat) ps wr => ∃ i : Int, ps = [(0, va), (1, vb), (5, .int .i64 i)] ∧ i = k ∧ k ≤ a.length ∧ a.length = b.length ∧ (∀ j, j < k → a.getD j 0 = b.getD j 0) ∧ Ex w wr) (fun k => a.length - k) 0 _ ⟨_, rfl, rfl, Nat.zero_le _, by omega, fun j hj => absurd hj (Nat.not_lt_zero _), (by repeat (first | assumption | exact Ex.refl _ | (refine Ex.trans ?_ (by assumption)) | (refine Ex.of_grown ?_ (by assumption) (by intro k hk; cases hk; omega))))⟩ ⟨rfl, rfl, rfl, trivial⟩ (by ((conv => lhs; whnf) <;> exact rfl)) ?_; rintro J hJ k u ps wr ⟨i, rfl, rfl, hk, hab, hall, he⟩; have hsz := he.size)
      | ((with_reducible (show Exit.then _ _ _ _ _)); refine n_roundG (k + 1) (hJ _ _ _ _ ⟨_, rfl, by omega, by omega, hab, below_succ hall (by omega), (by repeat (first | assumption | exact Ex.refl _ | (refine Ex.trans ?_ (by assumption)) | (refine Ex.of_grown ?_ (by assumption) (by intro k hk; cases hk; omega))))⟩ ⟨rfl, rfl, rfl, trivial⟩ rfl) (by omega))
      | (with_reducible apply W_nil)
      | ((with_reducible apply WQ_nil); exact rfl; intro wq he; have hsz := he.size)
      | ((with_reducible apply WQ_indexInt); ((conv => lhs; whnf) <;> exact rfl); (focus ((repeat (first | assumption | ((with_reducible apply OwnR.grownS); assumption; omega) | ((with_reducible apply Row.ex); assumption) | ((with_reducible apply OwnR.ex); assumption) | ((with_reducible apply Bx.grownS); assumption; (first | omega | exact Bx.ne (by assumption) (by omega))) | ((with_reducible apply Bx.below); assumption; omega) | ((with_reducible apply Own.grownS); assumption; omega) | ((with_reducible apply Bx.ex); assumption) | ((with_reducible apply IntsK.ex); assumption) | ((with_reducible apply Own.ex); assumption) | ((with_reducible apply Prs.ex); assumption))); done)); exact rfl; omega; intro pq hpq)
      | ((with_reducible apply c_quiet); kernel_rfl)
      | (with_reducible apply c_seq)
      | (with_reducible apply c_region)
      | (with_reducible apply c_block)
      | (with_reducible apply c_skip)
      | (with_reducible apply c_ret)
      | (with_reducible apply c_exit)
      | ((with_reducible apply c_cond_dec); exact rfl; intro _; rotate_left 1; intro _)
      | (with_reducible apply n_then)
      | (with_reducible apply n_block)
      | (with_reducible apply e_then)
      | (with_reducible apply e_block)
      | (with_reducible apply r_then)
      | (with_reducible apply r_block)
      | ((with_reducible apply p_ret1); exact rfl; ((conv => lhs; whnf) <;> exact rfl); refine ⟨_, rfl, ?_, (by repeat (first | assumption | exact Ex.refl _ | (refine Ex.trans ?_ (by assumption)) | (refine Ex.of_grown ?_ (by assumption) (by intro k hk; cases hk; omega))))⟩))
  · exact bool_tt (ext_getD hab fun j hj => hall j (by omega))
  · exact bool_ff fun e => absurd (congrArg (fun l => l.getD k 0) e) (by assumption)
  · exact bool_ff fun e => by have := congrArg List.length e; omega
theorem numbers_same (va vb : Value) (a : List Int) (w : World) (ha : Ints w va a) (hb : Ints w vb a) : Ret Try.prog 32 [va, vb] w fun r _ => r = .bool true := by
  have h := numbers_any va vb a a w ha hb
  rw [decide_eq_true rfl] at h
  exact h
end Go.Proofs.Ytbmjigneekodnaa
