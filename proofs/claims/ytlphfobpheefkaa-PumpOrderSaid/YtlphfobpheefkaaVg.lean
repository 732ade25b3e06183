/-
  What this text proves: laws for structs that lie in structs: parts that are loaded, structs that are built of them, and results of two kinds. Over any program.
-/
import Derived.Test.YtlphfobpheefkaaUg
set_option linter.unusedVariables false
set_option linter.unusedSimpArgs false
namespace Go.Pv
open Go.RowKit
section
variable {P : Program} {Q : Exit → Act → World → Prop} {Q' : Act → Prop} {ol rest : List Oper} {l : St} {w : World} {od : Option Nat} {ty : TypeId} {pos : String} {af : Array Edge}
/-- Some cells of a block, from one on. -/
theorem Bx.sub {w : World} {b : Nat} {c : List Value} {T : TypeId} (h : Bx w b c T) (o : Nat) : Cells w ⟨b, o, none⟩ (c.drop o) := by
  unfold Cells
  intro j v hj
  rw [add_mk, h.cell]
  rw [List.getElem?_drop] at hj
  exact hj
theorem Cells.take {w : World} {a : Addr} {c : List Value} (h : Cells w a c) (n : Nat) : Cells w a (c.take n) := by
  unfold Cells at *
  intro j v hj
  rw [List.getElem?_take] at hj
  split at hj
  · exact h j v hj
  · cases hj
/-- A struct that is a part of a box is loaded. -/
theorem r_loadSub {x : Operand} {T : TypeId} {b o n m : Nat} {z : Value} {c d : List Value} {T' : TypeId} [h' : Agg P T] [hs : Sz P T z n m] (hx : ev l x = .pointer (some ⟨b, o, none⟩)) (hb : Bx w b c T') (hd : (c.drop o).take n = d) (hn : d.length = n) :
    Runs P ⟨od, .load T x, ty, pos, af, none⟩ l w (.agg d.toArray) := r_loadA hx (hd ▸ (hb.sub o).take n) hn
theorem IntsK.exH {k : IntKind} {w w' : World} {v : Value} {xs : List Int} (h : IntsK k w v xs) (e : Ex w w') : IntsK k w' v xs := h.ex e
theorem Prs.exH {w w' : World} {v : Value} {xs : List (Int × Int)} (h : Prs w v xs) (e : Ex w w') : Prs w' v xs := h.ex e
/-- Where the fields of a struct lie. -/
def plcs (P : Program) (T : TypeId) : Option (List (Nat × Nat)) :=
  match P.underlying T with
  | some (.struct fs) => fs.toList.mapM fun f => (P.info? f.type).map fun i => (f.offset, i.size)
  | _ => none
theorem r_buildN {n m : Nat} {zs : List Value} {pl : List (Nat × Nat)} {ps : List (Nat × Operand)} {qs : List (Nat × Value)} {c : List Value} {T : TypeId} [hz : Sz P T (.agg zs.toArray) n m] (hp : plcs P T = some pl) (hq : evps l ps = qs) (hf : Instr.fill (pl.toArray[·]?) zs.toArray qs = some c.toArray) :
    Runs P ⟨od, .build T ps.toArray, ty, pos, af, none⟩ l w (.agg c.toArray) := by
  obtain ⟨it, h3, h4, _⟩ := hz.parts
  have hb : P.built T qs = some c.toArray := by
    unfold plcs at hp
    split at hp
    · next fs h1 =>
      simp only [Program.built, h3, h1, h4, hp, Value.cells]
      exact hf
    · cases hp
  simp only [Runs, execOp, List.map_toArray, map_evps, hq, Sem.run_bind, Sem.run_pure]
  rw [run_build w T qs.toArray c.toArray (by simpa using hb)]
  rfl
theorem r_conv16 {x : Operand} {src dst : TypeId} {ds : TypeDesc} {m : Int} [Und P src ds] [hd : Und P dst (.int .i64)] (hx : ev l x = .int .u16 m) (hm : 0 ≤ m ∧ m ≤ 65535) : Runs P ⟨od, .convert src dst x, ty, pos, af, none⟩ l w (.int .i64 m) := by
  have := r_conv (P := P) (od := od) (ty := ty) (pos := pos) (af := af) (w := w) (l := l) (src := src) (dst := dst) (k' := .i64) hx
  have e : IntKind.wrap .i64 m = m := by
    simp [IntKind.wrap, IntKind.signed, IntKind.bits, IntKind.min, IntKind.max]
    omega
  rwa [e] at this
/-- A struct of four cells and one more cell. -/
theorem r_bldA {n m : Nat} {z0 z1 z2 z3 z4 v0 v1 v2 v3 u : Value} {x0 x1 : Operand} {T : TypeId} [hz : Sz P T (.agg #[z0, z1, z2, z3, z4]) n m] (hp : plcs P T = some [(0, 4), (4, 1)]) (h0 : ev l x0 = .agg #[v0, v1, v2, v3]) (h1 : ev l x1 = u) (hu : u.oneCell' = true) :
    Runs P ⟨od, .build T #[(0, x0), (1, x1)], ty, pos, af, none⟩ l w (.agg #[v0, v1, v2, v3, u]) := by
  have := r_buildN (P := P) (l := l) (w := w) (od := od) (ty := ty) (pos := pos) (af := af) (zs := [z0, z1, z2, z3, z4]) (ps := [(0, x0), (1, x1)]) (qs := [(0, .agg #[v0, v1, v2, v3]), (1, u)]) (c := [v0, v1, v2, v3, u]) (T := T) hp (by simp [evps, h0, h1]) ?_
  · exact this
  · have hc := cells_one hu
    have ha : (Value.agg #[v0, v1, v2, v3]).cells = #[v0, v1, v2, v3] := rfl
    simp [Instr.fill, hc, ha]
/-- A struct of two cells and a struct of two cells. -/
theorem r_bldC {n m : Nat} {z0 z1 z2 z3 u t v0 v1 : Value} {x0 x1 x2 : Operand} {T : TypeId} [hz : Sz P T (.agg #[z0, z1, z2, z3]) n m] (hp : plcs P T = some [(0, 1), (1, 1), (2, 2)]) (h0 : ev l x0 = u) (h1 : ev l x1 = t) (h2 : ev l x2 = .agg #[v0, v1]) (hu : u.oneCell' = true) (ht : t.oneCell' = true) :
    Runs P ⟨od, .build T #[(0, x0), (1, x1), (2, x2)], ty, pos, af, none⟩ l w (.agg #[u, t, v0, v1]) := by
  have := r_buildN (P := P) (l := l) (w := w) (od := od) (ty := ty) (pos := pos) (af := af) (zs := [z0, z1, z2, z3]) (ps := [(0, x0), (1, x1), (2, x2)]) (qs := [(0, u), (1, t), (2, .agg #[v0, v1])]) (c := [u, t, v0, v1]) (T := T) hp (by simp [evps, h0, h1, h2]) ?_
  · exact this
  · have hc := cells_one hu
    have hd := cells_one ht
    have ha : (Value.agg #[v0, v1]).cells = #[v0, v1] := rfl
    simp [Instr.fill, hc, hd, ha]
/-- A struct of four cells and two more cells. -/
theorem r_bldB {n m : Nat} {z0 z1 z2 z3 z4 z5 v0 v1 v2 v3 u t : Value} {x0 x1 x2 : Operand} {T : TypeId} [hz : Sz P T (.agg #[z0, z1, z2, z3, z4, z5]) n m] (hp : plcs P T = some [(0, 4), (4, 1), (5, 1)]) (h0 : ev l x0 = .agg #[v0, v1, v2, v3]) (h1 : ev l x1 = u) (h2 : ev l x2 = t) (hu : u.oneCell' = true) (ht : t.oneCell' = true) :
    Runs P ⟨od, .build T #[(0, x0), (1, x1), (2, x2)], ty, pos, af, none⟩ l w (.agg #[v0, v1, v2, v3, u, t]) := by
  have := r_buildN (P := P) (l := l) (w := w) (od := od) (ty := ty) (pos := pos) (af := af) (zs := [z0, z1, z2, z3, z4, z5]) (ps := [(0, x0), (1, x1), (2, x2)]) (qs := [(0, .agg #[v0, v1, v2, v3]), (1, u), (2, t)]) (c := [v0, v1, v2, v3, u, t]) (T := T) hp (by simp [evps, h0, h1, h2]) ?_
  · exact this
  · have hc := cells_one hu
    have hd := cells_one ht
    have ha : (Value.agg #[v0, v1, v2, v3]).cells = #[v0, v1, v2, v3] := rfl
    simp [Instr.fill, hc, hd, ha]
/-- A call of a closure among operations that draw their order. -/
theorem WQ_callfv {d : Nat} {f : FuncId} {x : Operand} {xs : List Operand} {vs : List Value} {tys : Array TypeId} {T : TypeId} {u : Value} {first captured : List Value} [Fun P f]
    (hf : ev l x = .func (.func f) first.toArray captured.toArray) (hc : ∀ w', Ex w w' → Ret P f (first ++ vs ++ captured) w' fun v _ => v = u) (hx : evs l xs = vs) (k : WQ P (Ex w) ol Q' rest (upd l d u)) :
    WQ P (Ex w) ol Q' (⟨some d, .call { callee := .value x, args := xs.toArray, argTypes := tys }, T, pos, af, none⟩ :: rest) l := by
  unfold WQ at *
  unfold Ret at hc
  refine wpQuiet_step fun K hK => ?_
  rw [if_pos (show Region.wanted _ _ = true from rfl)]
  refine ⟨u, fun w' hw' => ?_, ?_⟩
  · unfold Oper.quietAt
    rw [eval_act]
    have hrun : (execOp (ev l) ⟨some d, .call { callee := .value x, args := xs.toArray, argTypes := tys }, T, pos, af, none⟩).run P w' = .ok (.enter f (first ++ vs ++ captured).toArray) w' := by
      have := run_call (P := P) (f := f) (vs := vs) (w := w') (first := first.toArray) (captured := captured.toArray)
      simp only [execOp, resolve, List.map_toArray, map_evs, hx, hf]
      simpa using this
    rw [hrun]
    refine ⟨rfl, Calls.mono (hc w' hw') ?_⟩
    rintro e w2 ⟨v, rfl, rfl, h2⟩
    exact ⟨rfl, hw'.trans h2⟩
  · show K ((act l).put (some d) u)
    rw [put_act]; exact hK _ k
/-- Two results: a struct in a cell, and a plain one. -/
theorem p_retct {fn : Func} {t1 u T1 T1' b1 n1 y1 : Nat} {c1 : List Value} {z1 v : Value} {R : Ending → World → Prop} (hd0 : l.ds = []) (hr : fn.results = #[.cell t1 T1, .tmp u]) (h1 : Agg P T1) (hs1 : Sz P T1 z1 n1 y1)
    (ht1 : nth l t1 = .pointer (some ⟨b1, 0, none⟩)) (hb1 : Bx w b1 c1 T1') (hn1 : c1.length = n1) (hv : nth l u = v) (h : R (.returned (.tuple #[.agg c1.toArray, v])) w) : BP P fn R .ret (act l) w := by
  refine bp_nil (.inl rfl) hd0 ⟨.tuple #[.agg c1.toArray, v], ?_, h⟩
  have g1 := run_loadCells_list (P := P) w ⟨b1, 0, none⟩ c1 (by have := hb1.cells; unfold Cells at this; exact this)
  rw [hn1] at g1
  obtain ⟨d1, e1, a1⟩ := h1.out
  have f1 : Und P T1 d1 := ⟨e1⟩
  have k1 : (act l).tmps[t1]?.getD undef = .pointer (some ⟨b1, 0, none⟩) := by rw [nth_eq]; exact ht1
  have k3 : (act l).tmps[u]?.getD undef = v := by rw [nth_eq]; exact hv
  simp [results, hr, k1, k3, asAddr, loadVar, f1.isAgg, a1, hs1.run, g1]
end
end Go.Pv
