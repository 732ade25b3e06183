/-
  (heavy) (rows) What this text proves: slices.Grow of an empty slice, and slices.Concat of two slices that are not empty. Conditions: the values read as lists.
-/
import Derived.Test.YtlphfobpheefkaaVAf
import Derived.Lib.AppendZeros
set_option linter.unusedVariables false
set_option linter.unusedSimpArgs false
namespace Go.Pv
open Go.RowKit Go.Sort
section
variable {P : Program} {Q : Exit → Act → World → Prop} {ol rest : List Oper} {l : St} {w : World} {od : Option Nat} {ty : TypeId} {pos : String} {af : Array Edge}
theorem r_capNil {x : Operand} {T e : TypeId} [h : Und P T (.slice e)] (hx : ev l x = .slice none 0 0) : Runs P ⟨od, .call { callee := .builtin .cap, args := #[x], argTypes := #[T] }, ty, pos, af, none⟩ l w (.int .i64 0) := by
  simp [Runs, execOp, resolve, Deferred.ofValue, invoke, builtin, hx, h.run, Builtin.cap_, goInt]
theorem r_sliceNil {x hx2 : Operand} {T e : TypeId} {m : Nat} {k : IntKind} {z : Value} {b : Nat} [h : Und P T (.slice e)] [hs : Sz P e z m b] (hx : ev l x = .slice none 0 0) (hi : ev l hx2 = .int k 0) :
    Runs P ⟨od, .slice T x none (some hx2) none, ty, pos, af, none⟩ l w (.slice none 0 0) := by
  simp [Runs, execOp, hx, hi, Instr.sliceAt, Instr.slice, Instr.sliceBounds, Instr.sliceBound, asIntOf, h.run, hs.run]
theorem r_slice0 {x hx2 : Operand} {T e : TypeId} {m n c g : Nat} {k : IntKind} {z : Value} {b : Nat} [h : Und P T (.slice e)] [hs : Sz P e z m b] (hx : ev l x = .slice (some ⟨g, 0, none⟩) n c) (hi : ev l hx2 = .int k 0) :
    Runs P ⟨od, .slice T x none (some hx2) none, ty, pos, af, none⟩ l w (.slice (some ⟨g, 0, none⟩) 0 c) := by
  simp [Runs, execOp, hx, hi, Instr.sliceAt, Instr.slice, Instr.sliceBounds, Instr.sliceBound, asIntOf, h.run, hs.run, Addr.add]
/-- append of a make onto nothing. -/
theorem W_appendZ {d n : Nat} {x y : Operand} {T T2 e : TypeId} {bytes base : Nat} {z : Value} {kn : IntKind} [hT : Und P T (.slice e)] [hT2 : Und P T2 (.int kn)] [hz : Sz P e z 1 bytes] (hzc : z.cells.size = 1) (hx : ev l x = .slice none 0 0) (hy : ev l y = .int .i64 (n : Int)) (h0 : 0 < n) (hn : n ≤ 1000) (hb : bytes ≤ 1000) (hbase : base ≤ w.heap.size)
    (K : ∀ g cap w', OwnV e base w' (.slice (some ⟨g, 0, none⟩) 0 cap) [] → Ex w w' → g = w.heap.size → W P ol Q rest (upd l d (.slice (some ⟨g, 0, none⟩) n cap)) w') :
    W P ol Q (⟨some d, .call { callee := .builtin .append, args := #[x, y], argTypes := #[T, T2] }, ty, pos, af, none⟩ :: rest) l w := by
  obtain ⟨i, h1, h2, h3, h4⟩ := hz.parts
  have hbb : n * bytes ≤ 1000 * 1000 := Nat.mul_le_mul hn hb
  have hr := Go.Lib.run_append_nil_zeros (P := P) w T T2 ty e i z .i64 kn hT.out hT2.out h1 h2 n h0 (by omega) (by omega) (by rw [h4]; omega)
  have hge := grownCap_ge w n 0 e
  have hle := grownCap_le_maxLen w n 0 e (by unfold maxLen; omega)
  refine W_run (w' := _) rfl rfl ?_ (K w.heap.size (grownCap w n 0 e) (w.drew.alloc (.cells (Builtin.zeroCells z.cells n ++ Builtin.zeroCells z.cells (grownCap w n 0 e - n)) e)) ?_ ?_ rfl)
  · simp only [execOp, resolve, invoke, builtin, Sem.run_bind, Sem.run_pure, Result.andThen_ok, List.map_toArray, List.map_cons, List.map_nil, hx, hy, hr]
  · unfold OwnV
    refine ⟨Nat.zero_le _, rfl, .inr ⟨w.heap.size, grownCap w n 0 e, _, rfl, hbase, heap_alloc_new w.drew _, Nat.zero_le _, hle, ?_, rfl⟩⟩
    simp only [Array.size_append, size_zeroCells, hzc, Nat.mul_one]
    omega
  · have hg : w.grownBy (w.drew.alloc (.cells (Builtin.zeroCells z.cells n ++ Builtin.zeroCells z.cells (grownCap w n 0 e - n)) e)) none := ⟨rfl, rfl, rfl, by simp, fun k hk _ => heap_alloc_old w.drew _ hk⟩
    exact Ex.of_grown (Ex.refl w) hg (fun k hk => by cases hk)
theorem r_indexBx4 {x ix : Operand} {T e : TypeId} {b i m c n bb : Nat} {k : IntKind} {z : Value} [h : Und P T (.slice e)] [hs : Sz P e z n bb] (hx : ev l x = .slice (some ⟨b, 0, none⟩) m c) (hi : ev l ix = .int k (i : Int)) (hlt : i < m) : Runs P ⟨od, .indexAddr T x ix, ty, pos, af, none⟩ l w (.pointer (some ⟨b, i * n, none⟩)) := by
  have := r_indexAddr (P := P) (T := T) (od := od) (ty := ty) (pos := pos) (af := af) (w := w) (e := e) hx hi hlt
  rwa [add_mk, Nat.zero_add] at this
end
/-- The lengths of the first of two lists, together. -/
def sumTwo (a b : List Value) : Nat → Int
  | 0 => 0
  | 1 => a.length
  | _ => (a.length : Int) + b.length
def catTwo (a b : List Value) : Nat → List Value
  | 0 => []
  | 1 => a
  | _ => a ++ b
theorem OwnV.mono4 {E : TypeId} {base base' : Nat} {w : World} {v : Value} {xs : List Value} (h : OwnV E base w v xs) (hb : base' ≤ base) : OwnV E base' w v xs := by
  unfold OwnV at h ⊢
  obtain ⟨h0, h1, h2⟩ := h
  refine ⟨h0, h1, ?_⟩
  rcases h2 with h2 | ⟨g, cap, cur, h3, h4, h5⟩
  · exact .inl h2
  · exact .inr ⟨g, cap, cur, h3, by omega, h5⟩
end Go.Pv
namespace Go.Proofs.Ytlphfobpheefkaa
open Go.Pv Go.RowKit Go.Sort
set_option maxHeartbeats 8000000
set_option maxRecDepth 20000
theorem growB_any (n : Nat) (w : World) (hn : 0 < n ∧ n ≤ 1000) : Ret Try.prog 90 [.slice none 0 0, .int .i64 (n : Int)] w fun r w' => OwnV 22 w.heap.size w' r [] := by
  have tkA : True := trivial
  refine ret_of_c Try.func90 rfl Try.ntmps90 (Nat.le_of_ble_eq_true rfl) (by dsimp only [ini, Nat.reduceAdd] <;> exact rfl) ?_
  repeat' (first
      | ((with_reducible apply c_cond_dec); exact rfl; intro _; rotate_left 1; intro _; (all_goals (try (exfalso; (focus (omega; done))))))
      | ((with_reducible apply W_op); exact rfl; exact rfl; exact r_capNil rfl)
      | ((with_reducible apply W_op); exact rfl; exact rfl; exact r_sliceNil rfl rfl)
      | ((with_reducible apply W_op); exact rfl; exact rfl; exact r_slice0 rfl rfl)
      | (refine W_appendZ (n := n) (base := w.heap.size) rfl rfl (Eq.trans (b := Value.int .i64 _) rfl (congrArg _ (by omega))) hn.1 hn.2 (by decide) (by omega) ?_; intro g cap wq hown he hg; have hsz := he.size)
      | ((first | ((with_reducible apply W_op); exact rfl; exact rfl)); (first | ((with_reducible apply r_move); ((conv => lhs; whnf) <;> exact rfl)) | ((with_reducible apply r_assign); ((conv => lhs; whnf) <;> exact rfl)) | ((with_reducible apply r_lss); exact rfl; exact rfl) | ((with_reducible apply r_gtr); exact rfl; exact rfl) | ((with_reducible apply r_sub); exact rfl; exact rfl; omega) | ((with_reducible apply r_len); exact rfl)))
      | (with_reducible apply W_nil)
      | (with_reducible apply c_seq)
      | ((with_reducible apply c_region); kernel_rfl)
      | (with_reducible apply n_nq)
      | (with_reducible apply c_skip)
      | (with_reducible apply c_ret)
      | (with_reducible apply n_then)
      | ((with_reducible apply p_ret1); exact rfl; exact rfl; ((conv => lhs; whnf) <;> exact rfl); refine ⟨_, rfl, ?_, (by repeat (first | assumption | exact Ex.refl _ | (refine Ex.trans ?_ (by assumption)) | (refine Ex.of_grown ?_ (by assumption) (by intro k hk; cases hk; omega))))⟩))
  all_goals first | exact hown | trace_state
theorem concatB_any (b : Nat) (v0 v1 : Value) (us0 us1 : List Value) (w : World) (h : Bx w b [v0, v1] 53) (h0 : Vals w v0 us0) (h1 : Vals w v1 us1) (n0 : 0 < us0.length) (n1 : 0 < us1.length) (hl : us0.length + us1.length ≤ 500) (o0 : ∀ q ∈ us0, q.oneCell' = true) (o1 : ∀ q ∈ us1, q.oneCell' = true) :
    Ret Try.prog 70 [.slice (some ⟨b, 0, none⟩) 2 2] w fun r w' => OwnV 22 w.heap.size w' r (us0 ++ us1) := by
  have hbl := Bx.lt h
  have e0 := h0.one
  have e1 := h1.one
  have hs0 : sumTwo us0 us1 0 = 0 := rfl
  have hs1 : sumTwo us0 us1 1 = us0.length := rfl
  have hs2 : sumTwo us0 us1 2 = (us0.length : Int) + us1.length := rfl
  have hc0 : catTwo us0 us1 0 = [] := rfl
  have hc1 : catTwo us0 us1 1 = us0 := rfl
  have hc2 : catTwo us0 us1 2 = us0 ++ us1 := rfl
  have tkA : True := trivial
  refine ret_of_c Try.func70 rfl Try.ntmps70 (Nat.le_of_ble_eq_true rfl) (by dsimp only [ini, Nat.reduceAdd] <;> exact rfl) ?_
  repeat' (first
      | (clear tkB; (rcases (show k = 0 ∨ k = 1 ∨ k = 2 by omega) with rfl | rfl | rfl); all_goals (have tkC : True := trivial))
      | (clear tkD; (have hov1 := OwnV.one hown); (rcases (show k = 0 ∨ k = 1 ∨ k = 2 by omega) with rfl | rfl | rfl); all_goals (have tkE : True := trivial))
      | ((with_reducible apply c_cond_dec); exact rfl; intro _; rotate_left 1; intro _; (all_goals (try (exfalso; (focus (first | omega | (simp only [sumTwo] at *; omega); done))))))
      | ((with_reducible apply W_op); exact rfl; exact rfl; exact r_indexBx4 (i := 0) rfl rfl (by decide))
      | ((with_reducible apply W_op); exact rfl; exact rfl; exact r_indexBx4 (i := 1) rfl rfl (by decide))
      | ((with_reducible apply W_op); exact rfl; exact rfl; exact r_load rfl rfl ((Bx.cell (Bx.ex (show Ex w _ from (by repeat (first | exact Ex.refl _ | assumption | (refine Ex.of_grown ?_ (by assumption) (by intro k hk; cases hk; omega)) | (refine Ex.trans ?_ (by assumption))))) h) _).trans rfl))
      | ((with_reducible apply W_op); exact rfl; exact rfl; exact r_lenVals rfl (Vals.ex (show Ex w _ from (by repeat (first | exact Ex.refl _ | assumption | (refine Ex.of_grown ?_ (by assumption) (by intro k hk; cases hk; omega)) | (refine Ex.trans ?_ (by assumption))))) h0))
      | ((with_reducible apply W_op); exact rfl; exact rfl; exact r_lenVals rfl (Vals.ex (show Ex w _ from (by repeat (first | exact Ex.refl _ | assumption | (refine Ex.of_grown ?_ (by assumption) (by intro k hk; cases hk; omega)) | (refine Ex.trans ?_ (by assumption))))) h1))
      | ((with_reducible (show C _ _ _ _ _ _)); clear tkA; refine c_loopG (fun (k : Nat) ps wr => ∃ s : Int, ∃ i : Int, ps = [(0, .slice (some ⟨b, 0, none⟩) 2 2), (3, .int .i64 s), (9, .slice (some ⟨b, 0, none⟩) 2 2), (10, .int .i64 2), (11, .int .i64 i)] ∧ s = sumTwo us0 us1 k ∧ i = k ∧ k ≤ 2 ∧ Ex w wr) (fun k => 2 - k) 0 _ ⟨_, _, rfl, rfl, rfl, Nat.zero_le _, (by repeat (first | assumption | exact Ex.refl _ | (refine Ex.trans ?_ (by assumption)) | (refine Ex.of_grown ?_ (by assumption) (by intro k hk; cases hk; omega))))⟩ ⟨rfl, rfl, rfl, rfl, rfl, trivial⟩ (by ((conv => lhs; whnf) <;> exact rfl)) (by ((conv => lhs; whnf) <;> exact rfl)) ?_; rintro J hJ k u ps wr ⟨s, i, rfl, rfl, rfl, hk, he⟩; have hsz := he.size; have tkB : True := trivial)
      | ((with_reducible (show C _ _ _ _ _ _)); clear tkG; refine c_loopG (fun (k : Nat) ps wr => ∃ r : Value, ∃ i : Int, ps = [(0, .slice (some ⟨b, 0, none⟩) 2 2), (6, r), (25, .slice (some ⟨b, 0, none⟩) 2 2), (26, .int .i64 2), (27, .int .i64 i)] ∧ OwnV 22 w.heap.size wr r (catTwo us0 us1 k) ∧ i = k ∧ k ≤ 2 ∧ Ex w wr) (fun k => 2 - k) 0 _ ⟨_, _, rfl, OwnV.mono4 hownG (by omega), rfl, Nat.zero_le _, (by repeat (first | assumption | exact Ex.refl _ | (refine Ex.trans ?_ (by assumption)) | (refine Ex.of_grown ?_ (by assumption) (by intro k hk; cases hk; omega))))⟩ ⟨rfl, rfl, rfl, rfl, rfl, trivial⟩ (by ((conv => lhs; whnf) <;> exact rfl)) (by ((conv => lhs; whnf) <;> exact rfl)) ?_; rintro K2 hK2 k u ps wr ⟨r, i, rfl, hown, rfl, hk, he⟩; have hsz := he.size; have tkD : True := trivial)
      | (have _ := tkE; refine W_appendVs (w0 := w) (base := w.heap.size) (v := r) (u := v0) (xs := catTwo us0 us1 0) (ys := us0) rfl rfl (OwnV.ex (show Ex wr _ from (by repeat (first | exact Ex.refl _ | assumption | (refine Ex.of_grown ?_ (by assumption) (by intro k hk; cases hk; omega)) | (refine Ex.trans ?_ (by assumption))))) hown) rfl (Vals.ex (show Ex w _ from (by repeat (first | exact Ex.refl _ | assumption | (refine Ex.of_grown ?_ (by assumption) (by intro k hk; cases hk; omega)) | (refine Ex.trans ?_ (by assumption))))) h0) o0 n0 (by rw [hc0]; simp; omega) (show Ex w _ from (by repeat (first | exact Ex.refl _ | assumption | (refine Ex.of_grown ?_ (by assumption) (by intro k hk; cases hk; omega)) | (refine Ex.trans ?_ (by assumption))))) (Nat.le_refl _) (by omega) ?_; intro r2 wq hown2 he hkq hgq hbl2; have hsz := he.size; have hr21 := OwnV.one hown2)
      | (have _ := tkE; refine W_appendVs (w0 := w) (base := w.heap.size) (v := r) (u := v1) (xs := catTwo us0 us1 1) (ys := us1) rfl rfl (OwnV.ex (show Ex wr _ from (by repeat (first | exact Ex.refl _ | assumption | (refine Ex.of_grown ?_ (by assumption) (by intro k hk; cases hk; omega)) | (refine Ex.trans ?_ (by assumption))))) hown) rfl (Vals.ex (show Ex w _ from (by repeat (first | exact Ex.refl _ | assumption | (refine Ex.of_grown ?_ (by assumption) (by intro k hk; cases hk; omega)) | (refine Ex.trans ?_ (by assumption))))) h1) o1 n1 (by rw [hc1]; omega) (show Ex w _ from (by repeat (first | exact Ex.refl _ | assumption | (refine Ex.of_grown ?_ (by assumption) (by intro k hk; cases hk; omega)) | (refine Ex.trans ?_ (by assumption))))) (Nat.le_refl _) (by omega) ?_; intro r2 wq hown2 he hkq hgq hbl2; have hsz := he.size; have hr21 := OwnV.one hown2)
      | ((first | ((with_reducible apply W_op); exact rfl; exact rfl)); (first | ((with_reducible apply r_move); ((conv => lhs; whnf) <;> exact rfl)) | ((with_reducible apply r_assign); ((conv => lhs; whnf) <;> exact rfl)) | ((with_reducible apply r_lss); exact rfl; exact rfl) | ((with_reducible apply r_add); exact rfl; exact rfl; omega) | ((with_reducible apply r_len); exact rfl)))
      | ((with_reducible (show Exit.then _ _ _ _ _)); refine n_roundG (1) (hJ _ _ _ _ ⟨_, _, rfl, (by rw [hs0, hs1]; omega), by omega, by omega, (by repeat (first | assumption | exact Ex.refl _ | (refine Ex.trans ?_ (by assumption)) | (refine Ex.of_grown ?_ (by assumption) (by intro k hk; cases hk; omega))))⟩ ⟨rfl, rfl, rfl, rfl, rfl, trivial⟩ rfl) (by omega))
      | ((with_reducible (show Exit.then _ _ _ _ _)); refine n_roundG (2) (hJ _ _ _ _ ⟨_, _, rfl, (by rw [hs1, hs2]), by omega, by omega, (by repeat (first | assumption | exact Ex.refl _ | (refine Ex.trans ?_ (by assumption)) | (refine Ex.of_grown ?_ (by assumption) (by intro k hk; cases hk; omega))))⟩ ⟨rfl, rfl, rfl, rfl, rfl, trivial⟩ rfl) (by omega))
      | (refine W_call (growB_any (us0.length + us1.length) _ (by omega)) rfl ?_; rintro vq wq hownG he; have hsz := he.size; have hog1 := OwnV.one hownG; have tkG : True := trivial)
      | ((with_reducible (show Exit.then _ _ _ _ _)); refine n_roundG (1) (hK2 _ _ _ _ ⟨_, _, rfl, (by rw [hc0, List.nil_append] at hown2; exact hown2), by omega, by omega, (by repeat (first | assumption | exact Ex.refl _ | (refine Ex.trans ?_ (by assumption)) | (refine Ex.of_grown ?_ (by assumption) (by intro k hk; cases hk; omega))))⟩ ⟨rfl, rfl, rfl, rfl, rfl, trivial⟩ rfl) (by omega))
      | ((with_reducible (show Exit.then _ _ _ _ _)); refine n_roundG (2) (hK2 _ _ _ _ ⟨_, _, rfl, (by rw [hc1] at hown2; exact hown2), by omega, by omega, (by repeat (first | assumption | exact Ex.refl _ | (refine Ex.trans ?_ (by assumption)) | (refine Ex.of_grown ?_ (by assumption) (by intro k hk; cases hk; omega))))⟩ ⟨rfl, rfl, rfl, rfl, rfl, trivial⟩ rfl) (by omega))
      | (with_reducible apply W_nil)
      | (with_reducible apply c_seq)
      | ((with_reducible apply c_region); kernel_rfl)
      | (with_reducible apply n_nq)
      | (with_reducible apply c_block)
      | (with_reducible apply c_skip)
      | (with_reducible apply c_ret)
      | (with_reducible apply c_exit)
      | (with_reducible apply n_then)
      | (with_reducible apply n_block)
      | (with_reducible apply e_then)
      | (with_reducible apply e_block)
      | ((with_reducible apply p_ret1); exact rfl; exact rfl; ((conv => lhs; whnf) <;> exact rfl); refine ⟨_, rfl, ?_, (by repeat (first | assumption | exact Ex.refl _ | (refine Ex.trans ?_ (by assumption)) | (refine Ex.of_grown ?_ (by assumption) (by intro k hk; cases hk; omega))))⟩))
  all_goals first
    | (simpa [catTwo] using hown)
    | trace_state
end Go.Proofs.Ytlphfobpheefkaa
