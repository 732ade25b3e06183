/-
  What this text proves: laws for a struct that holds an array of ints, for copy into it, and for worlds that only grow. Over any program.
-/
import Derived.Laws.CopyRow
import Derived.Sort.Grow
import Derived.Test.YtigknnepmhmiaaaVg
import Derived.Test.YtigknnepmhmiaaaUs
import Derived.Test.YtigknnepmhmiaaaZ
set_option linter.unusedVariables false
set_option linter.unusedSimpArgs false
namespace Go.Pv
open Go.RowKit Go.Sort
/-- A struct of two cells and an array of ints. -/
def plC (a v : Value) (t : List Int) : List Value := a :: v :: t.map (Value.int .i64)
theorem plC_len (a v : Value) (t : List Int) : (plC a v t).length = t.length + 2 := by simp [plC]
theorem plC_get {a v : Value} {t : List Int} {k : Nat} (h : k < t.length) : (plC a v t)[2 + k * 1]? = some (.int .i64 (t.getD k (-1))) := by
  rw [Nat.mul_one, Nat.add_comm]
  simp [plC, h]
theorem plC_set {a v : Value} {t : List Int} {k : Nat} {x : Int} : lset (plC a v t) (2 + k * 1) (.int .i64 x) = plC a v (t.set k x) := by
  rw [← lset_eq, Nat.mul_one, Nat.add_comm]
  simp [plC, List.map_set]
theorem ones_map (t : List Int) : ones (t.map (Value.int .i64)) := by
  induction t with
  | nil => exact trivial
  | cons x t ih => exact ⟨rfl, ih⟩
theorem plC_ones {a v : Value} {t : List Int} (ha : a.oneCell' = true) (hv : v.oneCell' = true) : ones (plC a v t) := ⟨ha, hv, ones_map t⟩
theorem plC_take {a v : Value} {t : List Int} : ((plC a v t).drop 0).take 2 = [a, v] := rfl
theorem plC_lt {a v : Value} {t : List Int} {k : Nat} (h : k < t.length) : 2 + k * 1 < (plC a v t).length := by rw [plC_len]; omega
section
variable {P : Program} {Q : Exit → Act → World → Prop} {ol rest : List Oper} {l : St} {w : World} {od : Option Nat} {ty : TypeId} {pos : String} {af : Array Edge}
/-- A struct whose first part is given, the rest its zero. -/
theorem r_bldP {n m : Nat} {z0 z1 v0 v1 : Value} {N : Nat} {x0 : Operand} {T : TypeId} [hz : Sz P T (.agg (plC z0 z1 (List.replicate N 0)).toArray) n m] (hp : plcs P T = some [(0, 2), (2, N)]) (h0 : ev l x0 = .agg #[v0, v1]) :
    Runs P ⟨od, .build T #[(0, x0)], ty, pos, af, none⟩ l w (.agg (plC v0 v1 (List.replicate N 0)).toArray) := by
  refine r_buildN (P := P) (l := l) (w := w) (od := od) (ty := ty) (pos := pos) (af := af) (zs := plC z0 z1 (List.replicate N 0)) (ps := [(0, x0)]) (qs := [(0, .agg #[v0, v1])]) (c := plC v0 v1 (List.replicate N 0)) (T := T) hp (by simp [evps, h0]) ?_
  have ha : (Value.agg #[v0, v1]).cells = #[v0, v1] := rfl
  simp [Instr.fill, plC, ha]
/-- A part of an array that is addressed, from its beginning. -/
theorem r_sliceAr {x : Operand} {T e : TypeId} {n b o : Nat} {z : Value} {s bb : Nat} [h : Und P T (.array n e)] [hs : Sz P e z s bb] (hx : ev l x = .pointer (some ⟨b, o, none⟩)) :
    Runs P ⟨od, .slice T x none none none, ty, pos, af, none⟩ l w (.slice (some ⟨b, o, none⟩) n n) := by
  simp [Runs, execOp, hx, Instr.sliceAt, Instr.sureAddr, Instr.sliceBounds, Instr.sliceBound, h.run, hs.run, add_mk]
theorem r_sliceArH {x hi : Operand} {T e : TypeId} {n b o k : Nat} {ik : IntKind} {z : Value} {s bb : Nat} [h : Und P T (.array n e)] [hs : Sz P e z s bb] (hx : ev l x = .pointer (some ⟨b, o, none⟩)) (hh : ev l hi = .int ik (k : Int)) (hk : k ≤ n) :
    Runs P ⟨od, .slice T x none (some hi) none, ty, pos, af, none⟩ l w (.slice (some ⟨b, o, none⟩) k n) := by
  simp [Runs, execOp, hx, hh, Instr.sliceAt, Instr.sureAddr, Instr.sliceBounds, Instr.sliceBound, asIntOf, h.run, hs.run, add_mk, hk]
/-- copy of ints into a block. -/
theorem W_copyB {d b o dl dc : Nat} {x y : Operand} {T T2 e TT : TypeId} {bytes : Nat} {z : Value} {v : Value} {xs : List Int} {c c' : List Value} [hT : Und P T (.slice e)] [hz : Sz P e z 1 bytes]
    (hx : ev l x = .slice (some ⟨b, o, none⟩) dl dc) (hy : ev l y = v) (hv : Ints w v xs) (hle : xs.length ≤ dl) (hb : Bx w b c TT) (hfit : o + xs.length ≤ c.length) (hc' : c.take o ++ xs.map (Value.int .i64) ++ c.drop (o + xs.length) = c')
    (K : ∀ w', Bx w' b c' TT → w.grownBy w' (some b) → W P ol Q rest (upd l d (.int .i64 xs.length)) w') :
    W P ol Q (⟨some d, .call { callee := .builtin .copy, args := #[x, y], argTypes := #[T, T2] }, ty, pos, af, none⟩ :: rest) l w := by
  subst hc'
  have hlen := hv.len
  unfold Ints IntsK Sl at hv
  obtain ⟨_, a, cap, rfl, hcp, hm, hall⟩ := hv
  have hb0 := hb
  unfold Bx at hb0
  obtain ⟨i, h1, h2, h3, h4⟩ := hz.parts
  have hs1 : (P.info? e).map (·.size) = some 1 := by rw [h1]; simp [h3]
  have hgi : goInt xs.length = .int .i64 xs.length := rfl
  cases a with
  | none =>
    have hnil : xs = [] := by
      cases xs with
      | nil => rfl
      | cons x r => obtain ⟨p, u, hp, _⟩ := hall 0 (by simp); cases hp
    subst hnil
    refine W_run (w' := w) rfl rfl ?_ (by
      have := K w (by simpa using hb) (World.grownBy_refl' _ _)
      simpa using this)
    have hcap : cap = 0 ∨ cap ≠ 0 := by omega
    simp [execOp, resolve, Deferred.ofValue, invoke, builtin, hx, hy, Builtin.copy_, run_underlying hT.out, Builtin.lenOf, Builtin.firstCells, sizeOf, typeInfo, h1, storeCells, goInt, IntWalk.i64_in]
  | some p =>
    have hsrc : ∀ j u, (xs.map (Value.int .i64))[j]? = some u → w.cell? (p.add j) = some u := by
      intro j u hj
      simp at hj
      obtain ⟨y, hy1, rfl⟩ := hj
      obtain ⟨hj1, hj2⟩ := List.getElem?_eq_some_iff.1 hy1
      obtain ⟨p', u', hp', hcell, hr⟩ := hall j hj1
      cases hp'
      unfold IntR at hr
      rw [hcell, hr, hj2]
    have hrun := run_copy_row (P := P) w T T2 ty e b o dl dc p xs.length cap c.toArray TT (xs.map (Value.int .i64)) hT.out hs1 hb0 (by rw [List.length_map]; exact (Nat.min_eq_left hle).symm) hsrc (by simpa using hfit) (by simp [Value.oneCell'])
    refine W_run (w' := w.setRow b (c.take o ++ xs.map (Value.int .i64) ++ c.drop (o + xs.length)).toArray) rfl rfl ?_ (K _ ?_ ?_)
    · simp [execOp, resolve, Deferred.ofValue, invoke, builtin, hx, hy, hrun, hgi]
    · unfold Bx; exact setRow_heap w b _ _ _ _ hb0
    · exact ⟨rfl, rfl, rfl, by simp, fun k _ hk => setRow_other w b k _ (fun e => hk (by rw [e]))⟩
/-- The world has only drawn and grown. -/
def Gw (w w' : World) : Prop := ∃ q os, w' = grow (w.drewN q) os
theorem Gw.refl (w : World) : Gw w w := ⟨0, #[], by rw [grow_empty]; rfl⟩
theorem Gw.trans {a b c : World} (h : Gw a b) (k : Gw b c) : Gw a c := by
  obtain ⟨q, os, rfl⟩ := h
  obtain ⟨q', os', rfl⟩ := k
  exact ⟨q + q', os ++ os', by show grow (grow ((a.drewN q).drewN q') os) os' = _; rw [grow_grow, World.drewN_drewN]⟩
theorem Gw.alloc (w : World) (o : Obj) : Gw w (w.alloc o) := ⟨0, #[o], by rw [alloc_eq_grow]; rfl⟩
theorem Gw.drew (w : World) : Gw w { w with drawn := w.drawn + 1 } := ⟨1, #[], by rw [grow_empty]; rfl⟩
theorem W_boxG {d : Nat} {x : Operand} {T : TypeId} {v : Value} {c : List Value} (hx : ev l x = v) (hc : v.cells = c.toArray)
    (K : ∀ b w', Bx w' b c T → Ex w w' → Gw w w' → b = w.heap.size → W P ol Q rest (upd l d (.pointer (some ⟨b, 0, none⟩))) w') : W P ol Q (⟨some d, .box T x, ty, pos, af, none⟩ :: rest) l w := by
  refine W_run (w' := w.alloc (.cells c.toArray T)) rfl rfl ?_ (K w.heap.size _ (Bx.new w c T) (Ex.alloc _ _) (Gw.alloc _ _) rfl)
  simp [execOp, hx, Instr.box, newVar, newRow, hc]
end
end Go.Pv
