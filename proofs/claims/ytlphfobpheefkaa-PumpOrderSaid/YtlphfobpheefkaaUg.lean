/-
  What this text proves: more laws over any program: slices of pairs read field by field, max and min of two, a struct's field by value, two results in cells, two pairs appended.
-/
import Derived.Laws.Small
import Derived.Test.YtlphfobpheefkaaMd
import Derived.Test.YtlphfobpheefkaaMath
set_option linter.unusedVariables false
set_option linter.unusedSimpArgs false

namespace Go.Pv
open Go.RowKit
section
variable {P : Program} {ol : List Oper} {Q : Exit → Act → World → Prop} {R : Act → Prop} {rest : List Oper} {l : St} {w : World} {ty : TypeId} {pos : String} {af : Array Edge} {od : Option Nat}
theorem prs_at {w : World} {v : Value} {xs : List (Int × Int)} (hv : Prs w v xs) {i : Nat} (hlt : i < xs.length) : ∃ a n c b o, v = .slice (some a) n c ∧ i < n ∧ a.add (i * 2) = ⟨b, o, none⟩ ∧ Cells w ⟨b, o, none⟩ (pc (xs.getD i (0, 0))) ∧
    w.cell? ⟨b, o + 0, none⟩ = some (.int .i64 (xs.getD i (0, 0)).1) ∧ w.cell? ⟨b, o + 1, none⟩ = some (.int .i64 (xs.getD i (0, 0)).2) := by
  unfold Prs at hv
  obtain ⟨_, a, cap, rfl, hc, hm, hall⟩ := hv
  obtain ⟨p, rfl, h1⟩ := hall i hlt
  have e : xs.getD i (0, 0) = xs[i] := by simp [hlt]
  have h0 := h1
  unfold Cells at h1
  have h2 := h1 0 _ rfl
  have h3 := h1 1 _ rfl
  rw [e]
  cases hq : p.add (i * 2) with
  | mk b o s =>
    rw [hq] at h2 h3 h0
    have hs : s = none := by
      cases s with
      | none => rfl
      | some t =>
        simp [World.cell?, Addr.add] at h2
        split at h2 <;> cases h2
    subst hs
    exact ⟨p, _, _, b, o, rfl, hlt, hq, h0, by simpa [Addr.add] using h2, by simpa [Addr.add] using h3⟩
theorem W_indexPr2 {d : Nat} {x ix : Operand} {T e : TypeId} {v : Value} {i : Nat} {k : IntKind} {z : Value} {b : Nat} {xs : List (Int × Int)} [h : Und P T (.slice e)] [hs : Sz P e z 2 b] (hx : ev l x = v) (hv : Prs w v xs) (hi : ev l ix = .int k (i : Int)) (hlt : i < xs.length)
    (K : ∀ b o, Cells w ⟨b, o, none⟩ (pc (xs.getD i (0, 0))) → w.cell? ⟨b, o + 0, none⟩ = some (.int .i64 (xs.getD i (0, 0)).1) → w.cell? ⟨b, o + 1, none⟩ = some (.int .i64 (xs.getD i (0, 0)).2) → W P ol Q rest (upd l d (.pointer (some ⟨b, o, none⟩))) w) : W P ol Q (⟨some d, .indexAddr T x ix, ty, pos, af, none⟩ :: rest) l w := by
  obtain ⟨a, n, c, b, o, rfl, h1, h2, h5, h3, h4⟩ := prs_at hv hlt
  exact W_op rfl rfl (by have := r_indexAddr (P := P) (T := T) (od := some d) (ty := ty) (pos := pos) (af := af) (w := w) (e := e) hx hi h1; rwa [h2] at this) (K _ _ h5 h3 h4)
theorem WM_indexPr2 {d : Nat} {x ix : Operand} {T e : TypeId} {v : Value} {i : Nat} {k : IntKind} {z : Value} {b : Nat} {xs : List (Int × Int)} [h : Und P T (.slice e)] [hs : Sz P e z 2 b] (hx : ev l x = v) (hv : Prs w v xs) (hi : ev l ix = .int k (i : Int)) (hlt : i < xs.length)
    (K : ∀ b o, Cells w ⟨b, o, none⟩ (pc (xs.getD i (0, 0))) → w.cell? ⟨b, o + 0, none⟩ = some (.int .i64 (xs.getD i (0, 0)).1) → w.cell? ⟨b, o + 1, none⟩ = some (.int .i64 (xs.getD i (0, 0)).2) → WM P w ol R rest (upd l d (.pointer (some ⟨b, o, none⟩)))) : WM P w ol R (⟨some d, .indexAddr T x ix, ty, pos, af, none⟩ :: rest) l := by
  obtain ⟨a, n, c, b, o, rfl, h1, h2, h5, h3, h4⟩ := prs_at hv hlt
  exact WM_op rfl rfl (fun w' _ => by have := r_indexAddr (P := P) (T := T) (od := some d) (ty := ty) (pos := pos) (af := af) (w := w') (e := e) hx hi h1; rwa [h2] at this) (K _ _ h5 h3 h4)
theorem Own.built {E : TypeId} {base b : Nat} {w : World} {m : Int} (h : Bx w b [.int .i64 m] E) (hb : base ≤ b) : Own E base w (.slice (some ⟨b, 0, none⟩) 1 1) [m] := by
  unfold Own
  unfold Bx at h
  exact ⟨(by unfold maxLen; simp), by simp, .inr ⟨b, 1, _, rfl, hb, h, Nat.le_refl _, by decide, rfl, rfl⟩⟩
theorem WQ_indexPr2 {d : Nat} {x ix : Operand} {T e : TypeId} {v : Value} {i : Nat} {k : IntKind} {z : Value} {b : Nat} {xs : List (Int × Int)} [h : Und P T (.slice e)] [hs : Sz P e z 2 b] (hx : ev l x = v) (hv : Prs w v xs) (hi : ev l ix = .int k (i : Int)) (hlt : i < xs.length)
    (K : ∀ b o, Cells w ⟨b, o, none⟩ (pc (xs.getD i (0, 0))) → w.cell? ⟨b, o + 0, none⟩ = some (.int .i64 (xs.getD i (0, 0)).1) → w.cell? ⟨b, o + 1, none⟩ = some (.int .i64 (xs.getD i (0, 0)).2) → WQ P (Ex w) ol R rest (upd l d (.pointer (some ⟨b, o, none⟩)))) : WQ P (Ex w) ol R (⟨some d, .indexAddr T x ix, ty, pos, af, none⟩ :: rest) l := by
  obtain ⟨a, n, c, b, o, rfl, h1, h2, h5, h3, h4⟩ := prs_at hv hlt
  exact WQ_op rfl rfl (fun w' _ => by have := r_indexAddr (P := P) (T := T) (od := some d) (ty := ty) (pos := pos) (af := af) (w := w') (e := e) hx hi h1; rwa [h2] at this) (K _ _ h5 h3 h4)
theorem IntsK.built {k : IntKind} {w : World} {b : Nat} {E : TypeId} {xs : List Int} {n : Nat} (h : Bx w b (xs.map (Value.int k)) E) (hn : n = xs.length) (hm : xs.length ≤ 1000) : IntsK k w (.slice (some ⟨b, 0, none⟩) n n) xs := by
  subst hn
  unfold IntsK Sl
  refine ⟨by unfold maxLen; omega, some ⟨b, 0, none⟩, xs.length, rfl, Nat.le_refl _, by unfold maxLen; omega, fun i hi => ⟨⟨b, 0, none⟩, Value.int k xs[i], rfl, ?_, rfl⟩⟩
  have := Bx.cells h
  unfold Cells at this
  exact this i (.int k xs[i]) (by simp [hi])
theorem Prs.built {w : World} {b : Nat} {E : TypeId} {xs : List (Int × Int)} {n : Nat} (h : Bx w b (xs.flatMap pc) E) (hn : n = xs.length) (hm : xs.length ≤ 1000) : Prs w (.slice (some ⟨b, 0, none⟩) n n) xs := by
  subst hn
  unfold Prs
  refine ⟨by unfold maxLen; omega, some ⟨b, 0, none⟩, xs.length, rfl, Nat.le_refl _, by unfold maxLen; omega, fun i hi => ⟨_, rfl, ?_⟩⟩
  have := Bx.cells h
  unfold Cells at this ⊢
  intro j v hj
  have h2 := this (i * 2 + j) v (pc_flat_get xs i hi j v hj)
  have e : ((⟨b, 0, none⟩ : Addr).add (i * 2)).add j = (⟨b, 0, none⟩ : Addr).add (i * 2 + j) := by
    rw [add_mk, add_mk, add_mk]; congr 1; omega
  rw [e]; exact h2
variable {T : TypeId}
theorem W_bsP2 {d b : Nat} {x0 x1 : Operand} {e : TypeId} {z0 z1 a0 a1 b0 b1 : Value} [hT : Und P T (.slice e)] [hz : Sz P e (.agg #[z0, z1]) 2 b] (h0 : ev l x0 = .agg #[a0, a1]) (h1 : ev l x1 = .agg #[b0, b1])
    (K : ∀ b w', Bx w' b [a0, a1, b0, b1] e → Ex w w' → b = w.heap.size → W P ol Q rest (upd l d (.slice (some ⟨b, 0, none⟩) 2 2)) w') : W P ol Q (⟨some d, .buildSlice T 2 #[(0, x0), (1, x1)], ty, pos, af, none⟩ :: rest) l w := by
  refine W_run (w' := w.alloc (.cells #[a0, a1, b0, b1] e)) rfl rfl ?_ (K w.heap.size _ (Bx.new w [a0, a1, b0, b1] e) (Ex.alloc _ _) rfl)
  have hfill : Instr.fill (fun i => some (i * 2, 2)) ((Array.range (2 * 2)).map ((#[z0, z1] : Array Value)[· % (#[z0, z1] : Array Value).size]!)) [(0, .agg #[a0, a1]), (1, .agg #[b0, b1])] = some #[a0, a1, b0, b1] := by
    have hr : Array.range (2 * 2) = #[0, 1, 2, 3] := by decide
    simp [hr, Instr.fill, Value.cells]
  have h1' : ¬ (2 * 2 > 2 ^ 24) := by decide
  have h2' : ¬ (2 * 2 = 0) := by decide
  simp only [execOp, Instr.buildSlice, Sem.run_bind, hT.run, hz.run, Result.andThen_ok, h1', h2', if_false, hz.zero, Sem.run_pure, List.map_toArray, List.map_cons, List.map_nil, h0, h1, Value.cells]
  rw [hfill]
  rfl
theorem W_bsP3 {d b : Nat} {x0 x1 x2 : Operand} {e : TypeId} {z0 z1 a0 a1 b0 b1 c0 c1 : Value} [hT : Und P T (.slice e)] [hz : Sz P e (.agg #[z0, z1]) 2 b] (h0 : ev l x0 = .agg #[a0, a1]) (h1 : ev l x1 = .agg #[b0, b1]) (h2 : ev l x2 = .agg #[c0, c1])
    (K : ∀ b w', Bx w' b [a0, a1, b0, b1, c0, c1] e → Ex w w' → b = w.heap.size → W P ol Q rest (upd l d (.slice (some ⟨b, 0, none⟩) 3 3)) w') : W P ol Q (⟨some d, .buildSlice T 3 #[(0, x0), (1, x1), (2, x2)], ty, pos, af, none⟩ :: rest) l w := by
  refine W_run (w' := w.alloc (.cells #[a0, a1, b0, b1, c0, c1] e)) rfl rfl ?_ (K w.heap.size _ (Bx.new w [a0, a1, b0, b1, c0, c1] e) (Ex.alloc _ _) rfl)
  have hfill : Instr.fill (fun i => some (i * 2, 2)) ((Array.range (3 * 2)).map ((#[z0, z1] : Array Value)[· % (#[z0, z1] : Array Value).size]!)) [(0, .agg #[a0, a1]), (1, .agg #[b0, b1]), (2, .agg #[c0, c1])] = some #[a0, a1, b0, b1, c0, c1] := by
    have hr : Array.range (3 * 2) = #[0, 1, 2, 3, 4, 5] := by decide
    simp [hr, Instr.fill, Value.cells]
  have h1' : ¬ (3 * 2 > 2 ^ 24) := by decide
  have h2' : ¬ (3 * 2 = 0) := by decide
  simp only [execOp, Instr.buildSlice, Sem.run_bind, hT.run, hz.run, Result.andThen_ok, h1', h2', if_false, hz.zero, Sem.run_pure, List.map_toArray, List.map_cons, List.map_nil, h0, h1, h2, Value.cells]
  rw [hfill]
  rfl
theorem r_max2 {x y : Operand} {ts : Array TypeId} {m n : Int} (hx : ev l x = .int .i64 m) (hy : ev l y = .int .i64 n) : Runs P ⟨od, .call { callee := .builtin .max, args := #[x, y], argTypes := ts }, ty, pos, af, none⟩ l w (.int .i64 (max m n)) := by
  have e : (if n > m then n else m) = max m n := by rw [Int.max_def]; split <;> split <;> omega
  simp [Runs, execOp, resolve, invoke, builtin, hx, hy, e, run_max_int2]
theorem r_min2 {x y : Operand} {ts : Array TypeId} {m n : Int} (hx : ev l x = .int .i64 m) (hy : ev l y = .int .i64 n) : Runs P ⟨od, .call { callee := .builtin .min, args := #[x, y], argTypes := ts }, ty, pos, af, none⟩ l w (.int .i64 (min m n)) := by
  have e : (if n < m then n else m) = min m n := by rw [Int.min_def]; split <;> split <;> omega
  simp [Runs, execOp, resolve, invoke, builtin, hx, hy, e, run_min_int2]
theorem r_build0 {n m b : Nat} {zs : List Value} [hF : Flat P T n] [hz : Sz P T (.agg zs.toArray) m b] (hl : zs.length = n) : Runs P ⟨od, .build T #[], ty, pos, af, none⟩ l w (.agg zs.toArray) :=
  r_build (ps := []) (qs := []) rfl hl rfl rfl
theorem p_ret3cc {fn : Func} {t1 t2 u T1 T2 T1' T2' b1 b2 n1 n2 y1 y2 : Nat} {c1 c2 : List Value} {z1 z2 v : Value} {R : Ending → World → Prop} (hd0 : l.ds = []) (hr : fn.results = #[.cell t1 T1, .cell t2 T2, .tmp u]) (h1 : Agg P T1) (h2 : Agg P T2) (hs1 : Sz P T1 z1 n1 y1) (hs2 : Sz P T2 z2 n2 y2)
    (ht1 : nth l t1 = .pointer (some ⟨b1, 0, none⟩)) (ht2 : nth l t2 = .pointer (some ⟨b2, 0, none⟩)) (hb1 : Bx w b1 c1 T1') (hb2 : Bx w b2 c2 T2') (hn1 : c1.length = n1) (hn2 : c2.length = n2) (hv : nth l u = v) (h : R (.returned (.tuple #[.agg c1.toArray, .agg c2.toArray, v])) w) : BP P fn R .ret (act l) w := by
  refine bp_nil (.inl rfl) hd0 ⟨.tuple #[.agg c1.toArray, .agg c2.toArray, v], ?_, h⟩
  have g1 := run_loadCells_list (P := P) w ⟨b1, 0, none⟩ c1 (by have := hb1.cells; unfold Cells at this; exact this)
  have g2 := run_loadCells_list (P := P) w ⟨b2, 0, none⟩ c2 (by have := hb2.cells; unfold Cells at this; exact this)
  rw [hn1] at g1
  rw [hn2] at g2
  obtain ⟨d1, e1, a1⟩ := h1.out
  obtain ⟨d2, e2, a2⟩ := h2.out
  have f1 : Und P T1 d1 := ⟨e1⟩
  have f2 : Und P T2 d2 := ⟨e2⟩
  have k1 : (act l).tmps[t1]?.getD undef = .pointer (some ⟨b1, 0, none⟩) := by rw [nth_eq]; exact ht1
  have k2 : (act l).tmps[t2]?.getD undef = .pointer (some ⟨b2, 0, none⟩) := by rw [nth_eq]; exact ht2
  have k3 : (act l).tmps[u]?.getD undef = v := by rw [nth_eq]; exact hv
  simp [results, hr, k1, k2, k3, asAddr, loadVar, f1.isAgg, f2.isAgg, a1, a2, hs1.run, hs2.run, g1, g2]
theorem W_appendP2 {d : Nat} {x y : Operand} {e : TypeId} {z0 z1 : Value} {bytes base b c : Nat} {v : Value} {xs : List (Int × Int)} {m n m2 n2 : Int} {w0 : World} [hT : Und P T (.slice e)] [hz : Sz P e (.agg #[z0, z1]) 2 bytes]
    (hx : ev l x = v) (hown : OwnP e base w v xs) (hy : ev l y = .slice (some ⟨b, 0, none⟩) 2 c) (hb : Bx w b [.int .i64 m, .int .i64 n, .int .i64 m2, .int .i64 n2] e) (hlen : (xs.length + 2) * bytes ≤ 140737488355328 ∧ xs.length + 2 ≤ 1000000) (h0 : Ex w0 w) (hbase : w0.heap.size ≤ base) (hbase2 : base ≤ w.heap.size)
    (K : ∀ v' w', OwnP e base w' v' (xs ++ [(m, n), (m2, n2)]) → Ex w0 w' → Below base w w' → w.grownBy w' v.ownBlock → W P ol Q rest (upd l d v') w') :
    W P ol Q (⟨some d, .call { callee := .builtin .append, args := #[x, y], argTypes := #[T, T] }, ty, pos, af, none⟩ :: rest) l w := by
  obtain ⟨i, h1, h2, h3, h4⟩ := hz.parts
  unfold OwnP at hown
  unfold W
  have hbc := hb.cells
  unfold Cells at hbc
  refine wpList_append_own w rfl x y T rfl base e i (.agg #[z0, z1]) 2 bytes hT.out h1 h2 h3 h4 rfl (by decide) v xs.length (xs.flatMap pc) (by rw [eval_act]; exact hx) hown.2 ⟨b, 0, none⟩ 2 c [.int .i64 m, .int .i64 n, .int .i64 m2, .int .i64 n2] (by rw [eval_act]; exact hy) rfl hbc (by simp [Value.oneCell']) (by unfold maxLen; omega) hlen.1 hbase2 ?_
  intro v' w' hown' hg _
  rw [put_act]
  have K' := K v' w' (by unfold OwnP; exact ⟨by unfold maxLen; simp; omega, by simpa [pc] using hown'⟩) (h0.of_grown hg fun k hk => ?_) ((Below.refl base w).grown hg hbase2 fun k hk => (hown.2.lt k hk).1) hg
  · unfold W at K'; exact K'
  · have := hown.2.lt k hk
    omega
end
theorem ext_getD {α : Type} {d : α} {a b : List α} (hl : a.length = b.length) (h : ∀ j, j < a.length → a.getD j d = b.getD j d) : a = b := by
  apply List.ext_getElem hl
  intro j h1 h2
  have := h j h1
  simpa [h1, h2] using this
theorem Ret.monoU {P : Program} {f : FuncId} {vs : List Value} {w : World} {φ ψ : Value → World → Prop} (h : Ret P f vs w φ) (k : ∀ v w', Ex w w' → φ v w' → ψ v w') : Ret P f vs w ψ := by
  unfold Ret at *
  refine Calls.mono h ?_
  rintro e w' ⟨v, rfl, h1, h2⟩
  exact ⟨v, rfl, k v w' h2 h1, h2⟩
end Go.Pv
