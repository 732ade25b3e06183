/-
  What this text proves: laws for slices whose elements are laid as n cells each, over any program. No condition beyond what stands in each.
-/
import Derived.Test.YtlphfobpheefkaaR2
set_option linter.unusedVariables false
set_option linter.unusedSimpArgs false
set_option maxRecDepth 100000
namespace Go.Pv
open Go.RowKit
/-- The slice's elements lie as the cells that f says, n for each. -/
def Row {α : Type} (f : α → List Value) (n : Nat) (w : World) (v : Value) (xs : List α) : Prop :=
  xs.length ≤ maxLen ∧ ∃ a cap, v = .slice a xs.length cap ∧ xs.length ≤ cap ∧ cap ≤ maxLen ∧ ∀ i (h : i < xs.length), ∃ p, a = some p ∧ Cells w (p.add (i * n)) (f xs[i])
def OwnR {α : Type} (f : α → List Value) (n : Nat) (E : TypeId) (base : Nat) (w : World) (v : Value) (xs : List α) : Prop := xs.length ≤ maxLen ∧ w.ownsRow base E n v xs.length (xs.flatMap f)
section
variable {α : Type} {f : α → List Value} {n : Nat}
theorem Row.ex {w w' : World} {v : Value} {xs : List α} (e : Ex w w') (h : Row f n w v xs) : Row f n w' v xs := by
  obtain ⟨h0, a, cap, h1, h2, h3, h4⟩ := h
  refine ⟨h0, a, cap, h1, h2, h3, fun i h => ?_⟩
  obtain ⟨p, h5, h6⟩ := h4 i h
  exact ⟨p, h5, h6.ex e⟩
theorem Row.len {w : World} {v : Value} {xs : List α} (h : Row f n w v xs) : xs.length ≤ 9223372036854775807 := h.1
theorem Row.one {w : World} {v : Value} {xs : List α} (h : Row f n w v xs) : v.oneCell' = true := by
  obtain ⟨_, a, cap, rfl, _⟩ := h; rfl
theorem Row.nil (w : World) (a : Option Addr) (cap : Nat) (hc : cap ≤ maxLen) : Row f n w (.slice a 0 cap) [] := ⟨Nat.zero_le _, a, cap, rfl, Nat.zero_le _, hc, fun i hi => absurd hi (by simp)⟩
theorem OwnR.nil (E : TypeId) (base : Nat) (w : World) : OwnR f n E base w (.slice none 0 0) [] := ⟨Nat.zero_le _, World.ownsRow_nil _ _ _ _⟩
theorem OwnR.mono {E : TypeId} {base base' : Nat} {w : World} {v : Value} {xs : List α} (h : OwnR f n E base w v xs) (hb : base' ≤ base) : OwnR f n E base' w v xs := by
  obtain ⟨h0, h1, h2⟩ := h
  refine ⟨h0, h1, ?_⟩
  rcases h2 with h2 | ⟨g, cap, cur, h3, h4, h5⟩
  · exact .inl h2
  · exact .inr ⟨g, cap, cur, h3, Nat.le_trans hb h4, h5⟩
theorem OwnR.ex {E : TypeId} {base : Nat} {w w' : World} {v : Value} {xs : List α} (e : Ex w w') (h : OwnR f n E base w v xs) : OwnR f n E base w' v xs :=
  ⟨h.1, h.2.kept e.grownBy (by cases v.ownBlock <;> simp)⟩
theorem OwnR.grownS {E : TypeId} {base b : Nat} {w w' : World} {v : Value} {xs : List α} (hg : w.grownBy w' (some b)) (hb : b < base) (h : OwnR f n E base w v xs) : OwnR f n E base w' v xs :=
  ⟨h.1, h.2.kept hg (by
    cases e : v.ownBlock with
    | none => exact .inl rfl
    | some k => right; have := (h.2.lt k e).1; simp; omega)⟩
theorem OwnR.one {E : TypeId} {base : Nat} {w : World} {v : Value} {xs : List α} (h : OwnR f n E base w v xs) : v.oneCell' = true := by
  rcases h.2.2 with ⟨rfl, _⟩ | ⟨g, cap, cur, rfl, _⟩ <;> rfl
theorem row_flat_get (hf : ∀ x, (f x).length = n) : ∀ (xs : List α) (i : Nat) (h : i < xs.length) (j : Nat) (v : Value), (f xs[i])[j]? = some v → (xs.flatMap f)[i * n + j]? = some v
  | [], i, h, _, _, _ => by simp at h
  | x :: r, 0, h, j, v, hv => by
    simp only [List.getElem_cons_zero] at hv
    have hj : j < (f x).length := by
      rcases Nat.lt_or_ge j (f x).length with h' | h'
      · exact h'
      · rw [List.getElem?_eq_none h'] at hv; cases hv
    simp only [List.flatMap_cons, Nat.zero_mul, Nat.zero_add]
    rw [List.getElem?_append_left hj]
    exact hv
  | x :: r, i + 1, h, j, v, hv => by
    have := row_flat_get hf r i (by simpa using h) j v (by simpa using hv)
    simp only [List.flatMap_cons]
    have hx := hf x
    have e1 : (i + 1) * n = i * n + n := Nat.succ_mul i n
    rw [List.getElem?_append_right (by omega)]
    have e : (i + 1) * n + j - (f x).length = i * n + j := by omega
    rw [e]; exact this
theorem OwnR.row {E : TypeId} {base : Nat} {w : World} {v : Value} {xs : List α} (hf : ∀ x, (f x).length = n) (h : OwnR f n E base w v xs) : Row f n w v xs := by
  obtain ⟨h0, h1, h2⟩ := h
  rcases h2 with ⟨rfl, h2⟩ | ⟨g, cap, cur, rfl, hb, hh, hn, hm, hs, ht⟩
  · have : xs = [] := by cases xs <;> simp_all
    subst this
    exact Row.nil _ _ _ (Nat.zero_le _)
  · refine ⟨h0, some ⟨g, 0, none⟩, cap, rfl, hn, hm, fun i hi => ⟨⟨g, 0, none⟩, rfl, ?_⟩⟩
    unfold Cells
    intro j u hj
    rw [add_mk, add_mk]
    have e := row_flat_get hf xs i hi j u hj
    rw [← ht, List.getElem?_take] at e
    split at e
    · simp only [World.cell?, hh, Nat.zero_add]; simpa using e
    · cases e
theorem Row.built {w : World} {b : Nat} {E : TypeId} {xs : List α} {m : Nat} (hf : ∀ x, (f x).length = n) (h : Bx w b (xs.flatMap f) E) (hn : m = xs.length) (hm : xs.length ≤ 1000) : Row f n w (.slice (some ⟨b, 0, none⟩) m m) xs := by
  subst hn
  refine ⟨by unfold maxLen; omega, some ⟨b, 0, none⟩, xs.length, rfl, Nat.le_refl _, by unfold maxLen; omega, fun i hi => ⟨_, rfl, ?_⟩⟩
  have := Bx.cells h
  unfold Cells at this ⊢
  intro j v hj
  have h2 := this (i * n + j) v (row_flat_get hf xs i hi j v hj)
  have e : ((⟨b, 0, none⟩ : Addr).add (i * n)).add j = (⟨b, 0, none⟩ : Addr).add (i * n + j) := by
    rw [add_mk, add_mk, add_mk]; congr 1; omega
  rw [e]; exact h2
theorem row_at {w : World} {v : Value} {xs : List α} (d : α) (hf : ∀ x, (f x).length = n) (hn : 0 < n) (hv : Row f n w v xs) {i : Nat} (hlt : i < xs.length) : ∃ a m c b o, v = .slice (some a) m c ∧ i < m ∧ a.add (i * n) = ⟨b, o, none⟩ ∧ Cells w ⟨b, o, none⟩ (f (xs.getD i d)) := by
  obtain ⟨_, a, cap, rfl, hc, hm, hall⟩ := hv
  obtain ⟨p, rfl, h1⟩ := hall i hlt
  have e : xs.getD i d = xs[i] := by simp [hlt]
  rw [e]
  have h0 := h1
  unfold Cells at h1
  have hl := hf xs[i]
  have h2 := h1 0 _ (List.getElem?_eq_getElem (by omega))
  cases hq : p.add (i * n) with
  | mk b o s =>
    rw [hq] at h2 h0
    have hs : s = none := by
      cases s with
      | none => rfl
      | some t =>
        simp [World.cell?, Addr.add] at h2
        split at h2 <;> cases h2
    subst hs
    exact ⟨p, _, _, b, o, rfl, hlt, hq, h0⟩
theorem cells3 {w : World} {b o : Nat} {a0 a1 a2 : Value} (h : Cells w ⟨b, o, none⟩ [a0, a1, a2]) : w.cell? ⟨b, o + 0, none⟩ = some a0 ∧ w.cell? ⟨b, o + 1, none⟩ = some a1 ∧ w.cell? ⟨b, o + 2, none⟩ = some a2 := by
  unfold Cells at h
  exact ⟨by simpa [Addr.add] using h 0 _ rfl, by simpa [Addr.add] using h 1 _ rfl, by simpa [Addr.add] using h 2 _ rfl⟩
end
section ops
variable {P : Program} {ol rest : List Oper} {Q : Exit → Act → World → Prop} {R : Act → Prop} {l : St} {w : World} {α : Type} {f : α → List Value} {n : Nat}
variable {od : Option Nat} {ty : TypeId} {pos : String} {af : Array Edge} {T : TypeId}
theorem r_lenR {x : Operand} {T e : TypeId} {v : Value} {xs : List α} [h : Und P T (.slice e)] (hx : ev l x = v) (hs : Row f n w v xs) :
    Runs P ⟨od, .call { callee := .builtin .len, args := #[x], argTypes := #[T] }, ty, pos, af, none⟩ l w (.int .i64 xs.length) := by
  obtain ⟨_, a, cap, rfl, _⟩ := hs
  exact r_len (e := e) hx
theorem W_indexRw {d : Nat} {x ix : Operand} {T e : TypeId} {v : Value} {i : Nat} {k : IntKind} {z : Value} {b : Nat} {xs : List α} (dv : α) (hf : ∀ x, (f x).length = n) (hn : 0 < n) [h : Und P T (.slice e)] [hs : Sz P e z n b] (hx : ev l x = v) (hv : Row f n w v xs) (hi : ev l ix = .int k (i : Int)) (hlt : i < xs.length)
    (K : ∀ b o, Cells w ⟨b, o, none⟩ (f (xs.getD i dv)) → W P ol Q rest (upd l d (.pointer (some ⟨b, o, none⟩))) w) : W P ol Q (⟨some d, .indexAddr T x ix, ty, pos, af, none⟩ :: rest) l w := by
  obtain ⟨a, m, c, b, o, rfl, h1, h2, h5⟩ := row_at dv hf hn hv hlt
  exact W_op rfl rfl (by have := r_indexAddr (P := P) (T := T) (od := some d) (ty := ty) (pos := pos) (af := af) (w := w) (e := e) hx hi h1; rwa [h2] at this) (K _ _ h5)
theorem WM_indexRw {d : Nat} {x ix : Operand} {T e : TypeId} {v : Value} {i : Nat} {k : IntKind} {z : Value} {b : Nat} {xs : List α} (dv : α) (hf : ∀ x, (f x).length = n) (hn : 0 < n) [h : Und P T (.slice e)] [hs : Sz P e z n b] (hx : ev l x = v) (hv : Row f n w v xs) (hi : ev l ix = .int k (i : Int)) (hlt : i < xs.length)
    (K : ∀ b o, Cells w ⟨b, o, none⟩ (f (xs.getD i dv)) → WM P w ol R rest (upd l d (.pointer (some ⟨b, o, none⟩)))) : WM P w ol R (⟨some d, .indexAddr T x ix, ty, pos, af, none⟩ :: rest) l := by
  obtain ⟨a, m, c, b, o, rfl, h1, h2, h5⟩ := row_at dv hf hn hv hlt
  exact WM_op rfl rfl (fun w' _ => by have := r_indexAddr (P := P) (T := T) (od := some d) (ty := ty) (pos := pos) (af := af) (w := w') (e := e) hx hi h1; rwa [h2] at this) (K _ _ h5)
theorem WQ_indexRw {d : Nat} {x ix : Operand} {T e : TypeId} {v : Value} {i : Nat} {k : IntKind} {z : Value} {b : Nat} {xs : List α} (dv : α) (hf : ∀ x, (f x).length = n) (hn : 0 < n) [h : Und P T (.slice e)] [hs : Sz P e z n b] (hx : ev l x = v) (hv : Row f n w v xs) (hi : ev l ix = .int k (i : Int)) (hlt : i < xs.length)
    (K : ∀ b o, Cells w ⟨b, o, none⟩ (f (xs.getD i dv)) → WQ P (Ex w) ol R rest (upd l d (.pointer (some ⟨b, o, none⟩)))) : WQ P (Ex w) ol R (⟨some d, .indexAddr T x ix, ty, pos, af, none⟩ :: rest) l := by
  obtain ⟨a, m, c, b, o, rfl, h1, h2, h5⟩ := row_at dv hf hn hv hlt
  exact WQ_op rfl rfl (fun w' _ => by have := r_indexAddr (P := P) (T := T) (od := some d) (ty := ty) (pos := pos) (af := af) (w := w') (e := e) hx hi h1; rwa [h2] at this) (K _ _ h5)
/-- A slice of one element of three cells. -/
theorem W_bsR3 {d b : Nat} {x0 : Operand} {e : TypeId} {z0 z1 z2 v0 v1 v2 : Value} [hT : Und P T (.slice e)] [hz : Sz P e (.agg #[z0, z1, z2]) 3 b] (hx : ev l x0 = .agg #[v0, v1, v2])
    (K : ∀ b w', Bx w' b [v0, v1, v2] e → Ex w w' → b = w.heap.size → W P ol Q rest (upd l d (.slice (some ⟨b, 0, none⟩) 1 1)) w') : W P ol Q (⟨some d, .buildSlice T 1 #[(0, x0)], ty, pos, af, none⟩ :: rest) l w := by
  refine W_run (w' := w.alloc (.cells #[v0, v1, v2] e)) rfl rfl ?_ (K w.heap.size _ (Bx.new w [v0, v1, v2] e) (Ex.alloc _ _) rfl)
  have hfill : Instr.fill (fun i => some (i * 3, 3)) ((Array.range (1 * 3)).map ((#[z0, z1, z2] : Array Value)[· % (#[z0, z1, z2] : Array Value).size]!)) [(0, .agg #[v0, v1, v2])] = some #[v0, v1, v2] := by
    have hr : Array.range (1 * 3) = #[0, 1, 2] := by decide
    simp [hr, Instr.fill, Value.cells]
  have h1 : ¬ (1 * 3 > 2 ^ 24) := by decide
  have h2 : ¬ (1 * 3 = 0) := by decide
  simp only [execOp, Instr.buildSlice, Sem.run_bind, hT.run, hz.run, Result.andThen_ok, h1, h2, if_false, hz.zero, Sem.run_pure, List.map_toArray, List.map_cons, List.map_nil, hx, Value.cells]
  rw [hfill]
  rfl
/-- append(s, v) onto a slice of the call's own, the elements of n cells. -/
theorem W_appendR {d : Nat} {x y : Operand} {e : TypeId} {zs : Array Value} {bytes base b c : Nat} {v : Value} {xs : List α} {m : α} {w0 : World} (hf : ∀ x, (f x).length = n) (hn : 0 < n) [hT : Und P T (.slice e)] [hz : Sz P e (.agg zs) n bytes] (hzn : zs.size = n)
    (hx : ev l x = v) (hown : OwnR f n e base w v xs) (hy : ev l y = .slice (some ⟨b, 0, none⟩) 1 c) (hb : Bx w b (f m) e) (hone : (f m).all (fun u => u.oneCell') = true) (hlen : (xs.length + 1) * bytes ≤ 140737488355328 ∧ xs.length + 1 ≤ 9223372036854775807) (h0 : Ex w0 w) (hbase : w0.heap.size ≤ base) (hbase2 : base ≤ w.heap.size)
    (K : ∀ v' w', OwnR f n e base w' v' (xs ++ [m]) → Ex w0 w' → Below base w w' → w.grownBy w' v.ownBlock → W P ol Q rest (upd l d v') w') :
    W P ol Q (⟨some d, .call { callee := .builtin .append, args := #[x, y], argTypes := #[T, T] }, ty, pos, af, none⟩ :: rest) l w := by
  obtain ⟨i, h1, h2, h3, h4⟩ := hz.parts
  unfold OwnR at hown
  unfold W
  have hbc := hb.cells
  unfold Cells at hbc
  refine wpList_append_own w rfl x y T rfl base e i (.agg zs) n bytes hT.out h1 h2 h3 h4 (by simp [Value.cells, hzn]) hn v xs.length (xs.flatMap f) (by rw [eval_act]; exact hx) hown.2 ⟨b, 0, none⟩ 1 c (f m) (by rw [eval_act]; exact hy) (by simp [hf m]) hbc (by simpa using hone) (by unfold maxLen; omega) hlen.1 hbase2 ?_
  intro v' w' hown' hg _
  rw [put_act]
  have K := K v' w'
  unfold W at K
  refine K ⟨by unfold maxLen; simp; omega, by simpa using hown'⟩ (h0.of_grown hg fun k hk => ?_) ((Below.refl base w).grown hg hbase2 fun k hk => (hown.2.lt k hk).1) hg
  have := hown.2.lt k hk
  omega
/-- An array of three elements of one cell each. -/
theorem r_arr3 {x0 x1 x2 : Operand} {e : TypeId} {z0 z1 z2 ze v0 v1 v2 : Value} {bb be : Nat} [hT : Und P T (.array 3 e)] [hz : Sz P T (.agg #[z0, z1, z2]) 3 bb] [he : Sz P e ze 1 be] (h0 : ev l x0 = v0) (h1 : ev l x1 = v1) (h2 : ev l x2 = v2) (o0 : v0.oneCell' = true) (o1 : v1.oneCell' = true) (o2 : v2.oneCell' = true) :
    Runs P ⟨od, .build T #[(0, x0), (1, x1), (2, x2)], ty, pos, af, none⟩ l w (.agg #[v0, v1, v2]) := by
  obtain ⟨it, h3, h4, _⟩ := hz.parts
  obtain ⟨ie, g3, _, g5, _⟩ := he.parts
  have c0 := cells_one o0
  have c1 := cells_one o1
  have c2 := cells_one o2
  have hb : P.built T [(0, v0), (1, v1), (2, v2)] = some #[v0, v1, v2] := by
    simp only [Program.built, h3, hT.out, h4, g3, g5, Value.cells]
    simp [Instr.fill, c0, c1, c2]
  simp only [Runs, execOp, Sem.run_bind, Sem.run_pure]
  have := run_build w T #[(0, v0), (1, v1), (2, v2)] #[v0, v1, v2] (by simpa using hb)
  simp [h0, h1, h2, this]
end ops
end Go.Pv
