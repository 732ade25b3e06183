/-
  What this text proves: the examples of the chapter hold, and the answers that they stand on. Conditions: none.
-/
import Derived.Test.YtjcigpakljfkeaaVUh
import Derived.Test.YtjcigpakljfkeaaUh
import Derived.Test.YtjcigpakljfkeaaUk
import Derived.Test.YtjcigpakljfkeaaUw
set_option linter.unusedVariables false
set_option linter.unusedSimpArgs false
namespace Go.Pv
open Go.RowKit
section
variable {P : Program} {Q : Exit → Act → World → Prop} {ol rest : List Oper} {l : St} {w : World} {od : Option Nat} {ty : TypeId} {pos : String} {af : Array Edge}
theorem r_eqC {op : BinOp} {T T2 : TypeId} {x y : Operand} {vx vy : Value} (r : Value) (hx : ev l x = vx) (hy : ev l y = vy) (hg : (eqGuard op T x y vx vy).run P w = .ok () w) (h : (binOp op T vx vy).run P w = .ok r w) : Runs P ⟨od, .binOp op T x y T2, ty, pos, af, none⟩ l w r := by
  simp only [Runs, execOp, hx, hy, Sem.run_bind, hg, Result.andThen_ok, h, Sem.run_pure]
/-- A slice of elements whose cells are all given. -/
theorem W_bsG {d N n b : Nat} {e T : TypeId} {z : Value} {ps : List (Nat × Operand)} {qs : List (Nat × Value)} {c : List Value} [hT : Und P T (.slice e)] [hz : Sz P e z n b] (hq : evps l ps = qs) (hN : decide (0 < N * n ∧ N * n ≤ 1000) = true) (hf : Instr.fill (fun i => some (i * n, n)) ((Array.range (N * n)).map (z.cells[· % z.cells.size]!)) qs = some c.toArray)
    (K : ∀ b w', Bx w' b c e → Ex w w' → b = w.heap.size → W P ol Q rest (upd l d (.slice (some ⟨b, 0, none⟩) N N)) w') : W P ol Q (⟨some d, .buildSlice T N ps.toArray, ty, pos, af, none⟩ :: rest) l w := by
  have hN2 := of_decide_eq_true hN
  refine W_run (w' := w.alloc (.cells c.toArray e)) rfl rfl ?_ (K w.heap.size _ (Bx.new w c e) (Ex.alloc _ _) rfl)
  have h1 : ¬ (N * n > 2 ^ 24) := by omega
  have h2 : ¬ (N * n = 0) := by omega
  simp only [execOp, Instr.buildSlice, Sem.run_bind, hT.run, hz.run, Result.andThen_ok, List.map_toArray, map_evps, hq, h1, h2, if_false, hz.zero, Sem.run_pure]
  rw [hf]
  rfl
end
def JL : List (Int × Int) := [(0, 4), (3, 9), (6, 8), (5, 7), (10, 12)]
end Go.Pv
namespace Go.Proofs.Ytjcigpakljfkeaa
open Go.Pv Go.RowKit
set_option maxHeartbeats 8000000
set_option maxRecDepth 20000
theorem J_any (w : World) : Ret Try.prog 46 [] w fun r w' => ∃ v, r = .agg #[.int .i64 2, v] ∧ Prs w' v JL := by
  refine ret_of_c Try.func46 rfl Try.ntmps46 (Nat.le_of_ble_eq_true rfl) (by dsimp only [ini, Nat.reduceAdd] <;> exact rfl) ?_
  repeat' (first
      | (refine W_bsG (N := 5) (n := 2) (qs := [(0, .agg #[.int .i64 0, .int .i64 4]), (1, .agg #[.int .i64 3, .int .i64 9]), (2, .agg #[.int .i64 6, .int .i64 8]), (3, .agg #[.int .i64 5, .int .i64 7]), (4, .agg #[.int .i64 10, .int .i64 12])]) (c := [.int .i64 0, .int .i64 4, .int .i64 3, .int .i64 9, .int .i64 6, .int .i64 8, .int .i64 5, .int .i64 7, .int .i64 10, .int .i64 12]) rfl rfl (by kernel_rfl) ?_; intro bS wq hbS he hnq; have hltq := Bx.lt hbS; have hsz := he.size)
      | ((first | ((with_reducible apply W_op); exact rfl; exact rfl)); (first | ((with_reducible apply r_build2); ((conv => lhs; whnf) <;> exact rfl); ((conv => lhs; whnf) <;> exact rfl); (first | exact rfl | assumption | exact IntsK.one (by assumption) | exact Prs.one (by assumption) | exact Own.one (by assumption)); (first | exact rfl | assumption | exact IntsK.one (by assumption) | exact Prs.one (by assumption) | exact Own.one (by assumption)); exact rfl; exact rfl; ((simp only [lay, lset, List.replicate_succ, List.replicate_zero]) <;> exact rfl))))
      | (with_reducible apply W_nil)
      | ((with_reducible apply W_alloc); exact rfl; intro bq wq hbq he hnq; have hltq := Bx.lt hbq; have hsz := he.size)
      | ((with_reducible apply W_storeA); exact rfl; (focus ((repeat (first | assumption | ((with_reducible apply Bx.grownS); assumption; (first | omega | exact Bx.ne (by assumption) (by omega))) | ((with_reducible apply Bx.below); assumption; omega) | ((with_reducible apply Bx.ex); assumption))); done)); exact rfl; exact rfl; exact rfl; (repeat' (first | exact trivial | (first | exact rfl | assumption | exact IntsK.one (by assumption) | exact Prs.one (by assumption) | exact Own.one (by assumption)) | constructor)); intro wq hbq hgq; have he : Ex w wq := (by repeat (first | assumption | exact Ex.refl _ | (refine Ex.trans ?_ (by assumption)) | (refine Ex.of_grown ?_ (by assumption) (by intro k hk; cases hk; omega)))); have hsz := he.size; have hgz := hgq.size)
      | (with_reducible apply c_seq)
      | ((with_reducible apply c_region); kernel_rfl)
      | (with_reducible apply n_nq)
      | (with_reducible apply c_ret)
      | (with_reducible apply n_then)
      | ((with_reducible apply p_retc); exact rfl; exact rfl; exact inferInstance; exact inferInstance; exact rfl; (focus ((repeat (first | assumption | ((with_reducible apply Bx.grownS); assumption; (first | omega | exact Bx.ne (by assumption) (by omega))) | ((with_reducible apply Bx.below); assumption; omega) | ((with_reducible apply Bx.ex); assumption))); done)); exact rfl; refine ⟨_, rfl, ?_, (by repeat (first | assumption | exact Ex.refl _ | (refine Ex.trans ?_ (by assumption)) | (refine Ex.of_grown ?_ (by assumption) (by intro k hk; cases hk; omega))))⟩))
  exact ⟨_, rfl, Prs.built (xs := JL) (b := bS) (E := 47) (show Bx _ bS [.int .i64 0, .int .i64 4, .int .i64 3, .int .i64 9, .int .i64 6, .int .i64 8, .int .i64 5, .int .i64 7, .int .i64 10, .int .i64 12] 47 from (by repeat (first | assumption | ((with_reducible apply Bx.grownS); assumption; (first | omega | exact Bx.ne (by assumption) (by omega))) | ((with_reducible apply Bx.below); assumption; omega) | ((with_reducible apply Bx.ex); assumption)))) rfl (by decide)⟩
theorem P_any (w : World) : Ret Try.prog 47 [] w fun r w' => r = .agg #[.int .i64 980, .int .i64 1020, .int .i64 51, .int .i64 10, .int .i64 21] := by
  refine ret_of_c Try.func47 rfl Try.ntmps47 (Nat.le_of_ble_eq_true rfl) (by dsimp only [ini, Nat.reduceAdd] <;> exact rfl) ?_
  repeat' (first
      | (refine W_op rfl rfl (r_buildN (zs := [.int .i64 0, .int .i64 0, .int .i64 0, .int .i64 0, .int .i64 0]) (pl := [(0, 2), (2, 1), (3, 1), (4, 1)]) (qs := [(0, .agg #[.int .i64 980, .int .i64 1020]), (1, .int .i64 51), (2, .int .i64 10), (3, .int .i64 21)]) (c := [.int .i64 980, .int .i64 1020, .int .i64 51, .int .i64 10, .int .i64 21]) (by kernel_rfl) rfl (by kernel_rfl)) ?_)
      | ((first | ((with_reducible apply W_op); exact rfl; exact rfl)); (first | ((with_reducible apply r_build2); ((conv => lhs; whnf) <;> exact rfl); ((conv => lhs; whnf) <;> exact rfl); (first | exact rfl | assumption | exact IntsK.one (by assumption) | exact Prs.one (by assumption) | exact Own.one (by assumption)); (first | exact rfl | assumption | exact IntsK.one (by assumption) | exact Prs.one (by assumption) | exact Own.one (by assumption)); exact rfl; exact rfl; ((simp only [lay, lset, List.replicate_succ, List.replicate_zero]) <;> exact rfl))))
      | (with_reducible apply W_nil)
      | ((with_reducible apply W_alloc); exact rfl; intro bq wq hbq he hnq; have hltq := Bx.lt hbq; have hsz := he.size)
      | ((with_reducible apply W_storeA); exact rfl; (focus ((repeat (first | assumption | ((with_reducible apply Bx.grownS); assumption; (first | omega | exact Bx.ne (by assumption) (by omega))) | ((with_reducible apply Bx.below); assumption; omega) | ((with_reducible apply Bx.ex); assumption))); done)); exact rfl; exact rfl; exact rfl; (repeat' (first | exact trivial | (first | exact rfl | assumption | exact IntsK.one (by assumption) | exact Prs.one (by assumption) | exact Own.one (by assumption)) | constructor)); intro wq hbq hgq; have he : Ex w wq := (by repeat (first | assumption | exact Ex.refl _ | (refine Ex.trans ?_ (by assumption)) | (refine Ex.of_grown ?_ (by assumption) (by intro k hk; cases hk; omega)))); have hsz := he.size; have hgz := hgq.size)
      | (with_reducible apply c_seq)
      | ((with_reducible apply c_region); kernel_rfl)
      | (with_reducible apply n_nq)
      | (with_reducible apply c_ret)
      | (with_reducible apply n_then)
      | ((with_reducible apply p_retc); exact rfl; exact rfl; exact inferInstance; exact inferInstance; exact rfl; (focus ((repeat (first | assumption | ((with_reducible apply Bx.grownS); assumption; (first | omega | exact Bx.ne (by assumption) (by omega))) | ((with_reducible apply Bx.below); assumption; omega) | ((with_reducible apply Bx.ex); assumption))); done)); exact rfl; refine ⟨_, rfl, ?_, (by repeat (first | assumption | exact Ex.refl _ | (refine Ex.trans ?_ (by assumption)) | (refine Ex.of_grown ?_ (by assumption) (by intro k hk; cases hk; omega))))⟩))
  rfl
theorem eJ0 : jobErr 2 JL = 0 := by decide
theorem ePl : planL 2 JL = [0, 1, 0, 2, 0] := by decide
theorem ePa : passL (planL 2 JL) = 3 := by decide
theorem eCr : crowdL 2 JL 6 = [1, 2, 3] := by decide
theorem eMo : momL 2 JL = 5 := by decide
theorem eAd : addErr 2 JL [0, 1, 0, 2, 0] (12, 13) = 0 ∧ smallN 2 JL (fillP [0, 1, 0, 2, 0]) (12, 13) = 1 := by decide
theorem eVe : planErr 2 JL [0, 1, 2, 2, 0] = 14 := by decide
theorem eBa : barsA 980 1020 51 10 21 = (1, 50) ∧ barsB 980 1020 51 10 21 = (11, 20) ∧ barsErr 980 1020 51 10 21 = 0 := by decide
theorem eBr : bridgeErr 980 1020 51 10 21 (100, 151) = 0 ∧ bridgeL 980 1020 51 10 21 (100, 151) = [(100, 139), (150, 151)] := by decide
theorem eH1 : holdsErr 980 1020 51 10 21 (0, 120) [(0, 50), (70, 120)] = 0 := by decide
theorem eH2 : holdsErr 980 1020 51 10 21 (0, 120) [(0, 51), (70, 120)] = 21 := by decide
theorem eJP (v : Value) (w : World) (h : Prs w v JL) : Ret Try.prog 22 [.agg #[.int .i64 2, v]] w fun r w' => ∃ u, r = .tuple #[u, .int .i64 3, .int .i64 0] ∧ Ints w' u [0, 1, 0, 2, 0] := by
  have := Passes_any 2 v JL w h
  rwa [eJ0, if_pos rfl, if_pos rfl, ePa, ePl] at this
theorem eJC (v : Value) (w : World) (h : Prs w v JL) : Ret Try.prog 16 [.agg #[.int .i64 2, v], .int .i64 6] w fun r w' => ∃ u, r = .tuple #[u, .int .i64 0] ∧ Ints w' u [1, 2, 3] := by
  have := Crowd_any 2 6 v JL w h
  rwa [eJ0, if_pos rfl, eCr] at this
theorem eJM (v : Value) (w : World) (h : Prs w v JL) : Ret Try.prog 24 [.agg #[.int .i64 2, v]] w fun r _ => r = .tuple #[.int .i64 5, .int .i64 0] := by
  have := Prove_any 2 v JL w h
  rwa [show proveErr 2 JL = 0 by decide, if_pos rfl, eMo] at this
theorem eJA (v pv : Value) (w : World) (h : Prs w v JL) (hp : Ints w pv [0, 1, 0, 2, 0]) : Ret Try.prog 28 [.agg #[.int .i64 2, v], pv, .agg #[.int .i64 12, .int .i64 13]] w fun r _ => r = .tuple #[.int .i64 1, .int .i64 0] := by
  have := Add_any 2 12 13 v pv JL _ w h hp
  rwa [eAd.1, if_pos rfl, eAd.2] at this
theorem eJV (v pv : Value) (w : World) (h : Prs w v JL) (hp : Ints w pv [0, 1, 2, 2, 0]) : Ret Try.prog 26 [.agg #[.int .i64 2, v], pv] w fun r _ => r = .tuple #[.int .i64 0, .int .i64 14] := by
  have := Verify_any 2 v pv JL _ w h hp
  rwa [eVe, if_neg (by decide)] at this
theorem ePB (w : World) : Ret Try.prog 30 [.agg #[.int .i64 980, .int .i64 1020, .int .i64 51, .int .i64 10, .int .i64 21]] w fun r _ => r = .tuple #[.agg #[.int .i64 1, .int .i64 50], .agg #[.int .i64 11, .int .i64 20], .int .i64 0] := by
  have := bars_any 980 1020 51 10 21 w
  rwa [eBa.1, eBa.2.1, eBa.2.2] at this
theorem ePR (w : World) : Ret Try.prog 32 [.agg #[.int .i64 980, .int .i64 1020, .int .i64 51, .int .i64 10, .int .i64 21], .agg #[.int .i64 100, .int .i64 151]] w fun r w' => ∃ u, r = .tuple #[u, .int .i64 0] ∧ Prs w' u [(100, 139), (150, 151)] := by
  have := bridge_any 980 1020 51 10 21 100 151 w
  rw [eBr.1, eBr.2] at this
  exact this.monoU fun r w' _ ⟨u, h1, h2⟩ => ⟨u, h1, h2.prs⟩
theorem ePH1 (v : Value) (w : World) (h : Prs w v [(0, 50), (70, 120)]) : Ret Try.prog 35 [.agg #[.int .i64 980, .int .i64 1020, .int .i64 51, .int .i64 10, .int .i64 21], .agg #[.int .i64 0, .int .i64 120], v] w fun r _ => r = .int .i64 0 := by
  have := holds_any 980 1020 51 10 21 0 120 v _ w h
  rwa [eH1] at this
theorem ePH2 (v : Value) (w : World) (h : Prs w v [(0, 51), (70, 120)]) : Ret Try.prog 35 [.agg #[.int .i64 980, .int .i64 1020, .int .i64 51, .int .i64 10, .int .i64 21], .agg #[.int .i64 0, .int .i64 120], v] w fun r _ => r = .int .i64 21 := by
  have := holds_any 980 1020 51 10 21 0 120 v _ w h
  rwa [eH2] at this
theorem numbers_same (va vb : Value) (a : List Int) (w : World) (ha : Ints w va a) (hb : Ints w vb a) : Ret Try.prog 19 [va, vb] w fun r _ => r = .bool true := by
  have h := numbers_any va vb a a w ha hb
  rw [decide_eq_true rfl] at h
  exact h
theorem slots_same (va vb : Value) (a : List (Int × Int)) (w : World) (ha : Prs w va a) (hb : Prs w vb a) : Ret Try.prog 48 [va, vb] w fun r _ => r = .bool true := by
  have h := slots_any va vb a a w ha hb
  rw [decide_eq_true rfl] at h
  exact h
end Go.Proofs.Ytjcigpakljfkeaa
