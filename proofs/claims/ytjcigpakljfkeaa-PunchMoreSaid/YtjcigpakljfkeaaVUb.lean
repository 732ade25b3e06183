/-
  What this text proves: how slots with their numbers are compared: by From, then by number. Conditions: none.
-/
import Derived.Laws.CopyRow
import Derived.Sort.Grow
import Derived.Test.YtjcigpakljfkeaaVg
import Derived.Test.YtjcigpakljfkeaaUs
import Derived.Test.YtjcigpakljfkeaaZ
import Derived.Test.YtjcigpakljfkeaaUc
set_option linter.unusedVariables false
set_option linter.unusedSimpArgs false
namespace Go.Pv
open Go.RowKit Go.Sort
/-- A struct of two cells and an array of ints. -/
def plC (a v : Value) (t : List Int) : List Value := a :: v :: t.map (Value.int .i64)
theorem plC_len (a v : Value) (t : List Int) : (plC a v t).length = t.length + 2 := by simp [plC]
theorem plC_get {a v : Value} {t : List Int} {k : Nat} (h : k < t.length) : (plC a v t)[2 + k * 1]? = some (.int .i64 (t.getD k (-1))) := by
  rw [Nat.mul_one, Nat.add_comm]
  simp [plC, h]
theorem plC_set {a v : Value} {t : List Int} {k : Nat} {x : Int} : lset (plC a v t) (2 + k * 1) (.int .i64 x) = plC a v (t.set k x) := by
  rw [← lset_eq, Nat.mul_one, Nat.add_comm]
  simp [plC, List.map_set]
theorem ones_map (t : List Int) : ones (t.map (Value.int .i64)) := by
  induction t with
  | nil => exact trivial
  | cons x t ih => exact ⟨rfl, ih⟩
theorem plC_ones {a v : Value} {t : List Int} (ha : a.oneCell' = true) (hv : v.oneCell' = true) : ones (plC a v t) := ⟨ha, hv, ones_map t⟩
theorem plC_take {a v : Value} {t : List Int} : ((plC a v t).drop 0).take 2 = [a, v] := rfl
theorem plC_lt {a v : Value} {t : List Int} {k : Nat} (h : k < t.length) : 2 + k * 1 < (plC a v t).length := by rw [plC_len]; omega
section
variable {P : Program} {Q : Exit → Act → World → Prop} {ol rest : List Oper} {l : St} {w : World} {od : Option Nat} {ty : TypeId} {pos : String} {af : Array Edge}
/-- A struct whose first part is given, the rest its zero. -/
theorem r_bldP {n m : Nat} {z0 z1 v0 v1 : Value} {N : Nat} {x0 : Operand} {T : TypeId} [hz : Sz P T (.agg (plC z0 z1 (List.replicate N 0)).toArray) n m] (hp : plcs P T = some [(0, 2), (2, N)]) (h0 : ev l x0 = .agg #[v0, v1]) :
    Runs P ⟨od, .build T #[(0, x0)], ty, pos, af, none⟩ l w (.agg (plC v0 v1 (List.replicate N 0)).toArray) := by
  refine r_buildN (P := P) (l := l) (w := w) (od := od) (ty := ty) (pos := pos) (af := af) (zs := plC z0 z1 (List.replicate N 0)) (ps := [(0, x0)]) (qs := [(0, .agg #[v0, v1])]) (c := plC v0 v1 (List.replicate N 0)) (T := T) hp (by simp [evps, h0]) ?_
  have ha : (Value.agg #[v0, v1]).cells = #[v0, v1] := rfl
  simp [Instr.fill, plC, ha]
/-- A part of an array that is addressed, from its beginning. -/
theorem r_sliceAr {x : Operand} {T e : TypeId} {n b o : Nat} {z : Value} {s bb : Nat} [h : Und P T (.array n e)] [hs : Sz P e z s bb] (hx : ev l x = .pointer (some ⟨b, o, none⟩)) :
    Runs P ⟨od, .slice T x none none none, ty, pos, af, none⟩ l w (.slice (some ⟨b, o, none⟩) n n) := by
  simp [Runs, execOp, hx, Instr.sliceAt, Instr.sureAddr, Instr.sliceBounds, Instr.sliceBound, h.run, hs.run, add_mk]
theorem r_sliceArH {x hi : Operand} {T e : TypeId} {n b o k : Nat} {ik : IntKind} {z : Value} {s bb : Nat} [h : Und P T (.array n e)] [hs : Sz P e z s bb] (hx : ev l x = .pointer (some ⟨b, o, none⟩)) (hh : ev l hi = .int ik (k : Int)) (hk : k ≤ n) :
    Runs P ⟨od, .slice T x none (some hi) none, ty, pos, af, none⟩ l w (.slice (some ⟨b, o, none⟩) k n) := by
  simp [Runs, execOp, hx, hh, Instr.sliceAt, Instr.sureAddr, Instr.sliceBounds, Instr.sliceBound, asIntOf, h.run, hs.run, add_mk, hk]
/-- copy of ints into a block. -/
theorem W_copyB {d b o dl dc : Nat} {x y : Operand} {T T2 e TT : TypeId} {bytes : Nat} {z : Value} {v : Value} {xs : List Int} {c c' : List Value} [hT : Und P T (.slice e)] [hz : Sz P e z 1 bytes]
    (hx : ev l x = .slice (some ⟨b, o, none⟩) dl dc) (hy : ev l y = v) (hv : Ints w v xs) (hle : xs.length ≤ dl) (hb : Bx w b c TT) (hfit : o + xs.length ≤ c.length) (hc' : c.take o ++ xs.map (Value.int .i64) ++ c.drop (o + xs.length) = c')
    (K : ∀ w', Bx w' b c' TT → w.grownBy w' (some b) → W P ol Q rest (upd l d (.int .i64 xs.length)) w') :
    W P ol Q (⟨some d, .call { callee := .builtin .copy, args := #[x, y], argTypes := #[T, T2] }, ty, pos, af, none⟩ :: rest) l w := by
  subst hc'
  have hlen := hv.len
  unfold Ints IntsK Sl at hv
  obtain ⟨_, a, cap, rfl, hcp, hm, hall⟩ := hv
  have hb0 := hb
  unfold Bx at hb0
  obtain ⟨i, h1, h2, h3, h4⟩ := hz.parts
  have hs1 : (P.info? e).map (·.size) = some 1 := by rw [h1]; simp [h3]
  have hgi : goInt xs.length = .int .i64 xs.length := rfl
  cases a with
  | none =>
    have hnil : xs = [] := by
      cases xs with
      | nil => rfl
      | cons x r => obtain ⟨p, u, hp, _⟩ := hall 0 (by simp); cases hp
    subst hnil
    refine W_run (w' := w) rfl rfl ?_ (by
      have := K w (by simpa using hb) (World.grownBy_refl' _ _)
      simpa using this)
    have hcap : cap = 0 ∨ cap ≠ 0 := by omega
    simp [execOp, resolve, Deferred.ofValue, invoke, builtin, hx, hy, Builtin.copy_, run_underlying hT.out, Builtin.lenOf, Builtin.firstCells, sizeOf, typeInfo, h1, storeCells, goInt, IntWalk.i64_in]
  | some p =>
    have hsrc : ∀ j u, (xs.map (Value.int .i64))[j]? = some u → w.cell? (p.add j) = some u := by
      intro j u hj
      simp at hj
      obtain ⟨y, hy1, rfl⟩ := hj
      obtain ⟨hj1, hj2⟩ := List.getElem?_eq_some_iff.1 hy1
      obtain ⟨p', u', hp', hcell, hr⟩ := hall j hj1
      cases hp'
      unfold IntR at hr
      rw [hcell, hr, hj2]
    have hrun := run_copy_row (P := P) w T T2 ty e b o dl dc p xs.length cap c.toArray TT (xs.map (Value.int .i64)) hT.out hs1 hb0 (by rw [List.length_map]; exact (Nat.min_eq_left hle).symm) hsrc (by simpa using hfit) (by simp [Value.oneCell'])
    refine W_run (w' := w.setRow b (c.take o ++ xs.map (Value.int .i64) ++ c.drop (o + xs.length)).toArray) rfl rfl ?_ (K _ ?_ ?_)
    · simp [execOp, resolve, Deferred.ofValue, invoke, builtin, hx, hy, hrun, hgi]
    · unfold Bx; exact setRow_heap w b _ _ _ _ hb0
    · exact ⟨rfl, rfl, rfl, by simp, fun k _ hk => setRow_other w b k _ (fun e => hk (by rw [e]))⟩
/-- The world has only drawn and grown. -/
def Gw (w w' : World) : Prop := ∃ q os, w' = grow (w.drewN q) os
theorem Gw.refl (w : World) : Gw w w := ⟨0, #[], by rw [grow_empty]; rfl⟩
theorem Gw.trans {a b c : World} (h : Gw a b) (k : Gw b c) : Gw a c := by
  obtain ⟨q, os, rfl⟩ := h
  obtain ⟨q', os', rfl⟩ := k
  exact ⟨q + q', os ++ os', by show grow (grow ((a.drewN q).drewN q') os) os' = _; rw [grow_grow, World.drewN_drewN]⟩
theorem Gw.alloc (w : World) (o : Obj) : Gw w (w.alloc o) := ⟨0, #[o], by rw [alloc_eq_grow]; rfl⟩
theorem Gw.drew (w : World) : Gw w { w with drawn := w.drawn + 1 } := ⟨1, #[], by rw [grow_empty]; rfl⟩
theorem W_boxG {d : Nat} {x : Operand} {T : TypeId} {v : Value} {c : List Value} (hx : ev l x = v) (hc : v.cells = c.toArray)
    (K : ∀ b w', Bx w' b c T → Ex w w' → Gw w w' → b = w.heap.size → W P ol Q rest (upd l d (.pointer (some ⟨b, 0, none⟩))) w') : W P ol Q (⟨some d, .box T x, ty, pos, af, none⟩ :: rest) l w := by
  refine W_run (w' := w.alloc (.cells c.toArray T)) rfl rfl ?_ (K w.heap.size _ (Bx.new w c T) (Ex.alloc _ _) (Gw.alloc _ _) rfl)
  simp [execOp, hx, Instr.box, newVar, newRow, hc]
end
end Go.Pv
namespace Go.Pv
open Go.RowKit Go.Sort
def cmpI (a b : Int) : Int := if a < b then -1 else if b < a then 1 else 0
theorem cmpI_lt {a b : Int} (h : a < b) : cmpI a b = -1 := by unfold cmpI; rw [if_pos h]
theorem cmpI_gt {a b : Int} (h : ¬ a < b) (h2 : b < a) : cmpI a b = 1 := by unfold cmpI; rw [if_neg h, if_pos h2]
theorem cmpI_eq {a b : Int} (h : ¬ a < b) (h2 : ¬ b < a) : cmpI a b = 0 := by unfold cmpI; rw [if_neg h, if_neg h2]
def firstNZ : List Int → Int
  | [] => 0
  | x :: r => if x ≠ 0 then x else firstNZ r
/-- What compare says of a slot's From and number. -/
def cmpN (x y : Int × Int) : Int := firstNZ [cmpI x.1 y.1, cmpI x.2 y.2]
theorem firstNZ_at : ∀ {xs : List Int} {k : Nat}, k < xs.length → (∀ j, j < k → xs.getD j 0 = 0) → xs.getD k 0 ≠ 0 → xs.getD k 0 = firstNZ xs
  | [], k, h, _, _ => by simp at h
  | x :: r, 0, _, _, h => by simp [firstNZ] at *; simp [h]
  | x :: r, k + 1, h, h0, h1 => by
    have hx : x = 0 := by have := h0 0 (by omega); simpa using this
    have ih := firstNZ_at (xs := r) (k := k) (by simpa using h) (fun j hj => by have := h0 (j + 1) (by omega); simpa using this) (by simpa using h1)
    simp only [firstNZ, hx, ne_eq, not_true_eq_false, if_false]
    simpa using ih
theorem firstNZ_no : ∀ {xs : List Int}, (∀ j, j < xs.length → xs.getD j 0 = 0) → firstNZ xs = 0
  | [], _ => rfl
  | x :: r, h => by
    have hx : x = 0 := by have := h 0 (by simp); simpa using this
    have ih := firstNZ_no (xs := r) (fun j hj => by have := h (j + 1) (by simpa using hj); simpa using this)
    simp only [firstNZ, hx, ne_eq, not_true_eq_false, if_false]; exact ih
section
variable {P : Program} {Q : Exit → Act → World → Prop} {ol rest : List Oper} {l : St} {w : World} {ty : TypeId} {pos : String} {af : Array Edge}
theorem WMR_nilG {ρ : World → World → Prop} {qs : List Nat} {n : Nat} {l2 : Array Bool} {Q : Act → World → Prop} (h : ∀ w', Ex w w' → w'.heap.size = w.heap.size → Gw w w' → XTR ρ P ol qs Q n l2 l w') : WMR ρ P w ol (fun a' => anyXR ρ P ol.toArray qs Q n l2 a' { w with drawn := w.drawn + 1 }) [] l := by
  have := h _ (Ex.refl w).drew rfl (Gw.drew w)
  unfold WMR
  unfold XTR at this
  exact this
theorem W_bs2G {d b : Nat} {x0 x1 : Operand} {v0 v1 : Value} {e T : TypeId} {z : Value} [hT : Und P T (.slice e)] [hz : Sz P e z 1 b] (h0 : ev l x0 = v0) (h1 : ev l x1 = v1) (o0 : v0.oneCell' = true) (o1 : v1.oneCell' = true) (hz1 : z.cells = #[z])
    (K : ∀ bb w', Bx w' bb [v0, v1] e → Ex w w' → Gw w w' → bb = w.heap.size → W P ol Q rest (upd l d (.slice (some ⟨bb, 0, none⟩) 2 2)) w') : W P ol Q (⟨some d, .buildSlice T 2 #[(0, x0), (1, x1)], ty, pos, af, none⟩ :: rest) l w := by
  refine W_run (w' := w.alloc (.cells [v0, v1].toArray e)) rfl rfl ?_ (K w.heap.size _ (Bx.new w _ e) (Ex.alloc _ _) (Gw.alloc _ _) rfl)
  have hfill := fill_row 2 [(0, v0), (1, v1)] (List.replicate 2 z) (by simp) (by intro p hp; simp at hp; rcases hp with rfl | rfl <;> simp [o0, o1])
  have hq : evps l [(0, x0), (1, x1)] = [(0, v0), (1, v1)] := by simp [evps, h0, h1]
  have e1 : (#[(0, x0), (1, x1)] : Array (Nat × Operand)) = [(0, x0), (1, x1)].toArray := rfl
  rw [e1]
  simp only [execOp, Instr.buildSlice, Sem.run_bind, hT.run, hz.run, Result.andThen_ok, List.map_toArray, map_evps, hq, hz.zero, Sem.run_pure]
  rw [if_neg (by decide), if_neg (by decide)]
  simp only [hz.zero, Sem.run_bind, Result.andThen_ok, Sem.run_pure]
  rw [Nat.mul_one, zero_cells hz1, hfill]
  rfl
end
end Go.Pv
namespace Go.Proofs.Ytjcigpakljfkeaa
open Go.Pv Go.RowKit
set_option maxHeartbeats 8000000
theorem isNaN_any (a : Int) (w : World) : Ret Try.prog 104 [.int .i64 a] w fun r w' => r = .bool false ∧ w' = w := by
  refine ret_of_c Try.func104 rfl Try.ntmps104 (Nat.le_of_ble_eq_true rfl) (by dsimp only [ini, Nat.reduceAdd] <;> exact rfl) ?_
  repeat' (first
      | ((first | ((with_reducible apply W_op); exact rfl; exact rfl)); (first | ((with_reducible apply r_move); ((conv => lhs; whnf) <;> exact rfl)) | ((with_reducible apply r_assign); ((conv => lhs; whnf) <;> exact rfl)) | ((with_reducible apply r_neq); exact rfl; exact rfl)))
      | (with_reducible apply W_nil)
      | (with_reducible apply c_seq)
      | ((with_reducible apply c_region); kernel_rfl)
      | (with_reducible apply n_nq)
      | (with_reducible apply c_ret)
      | (with_reducible apply n_then)
      | ((with_reducible apply p_ret1); exact rfl; exact rfl; ((conv => lhs; whnf) <;> exact rfl); refine ⟨_, rfl, ?_, (by repeat (first | assumption | exact Ex.refl _ | (refine Ex.trans ?_ (by assumption)) | (refine Ex.of_grown ?_ (by assumption) (by intro k hk; cases hk; omega))))⟩))
  exact ⟨by simp, rfl⟩
theorem Compare_any (a b : Int) (w : World) : Ret Try.prog 92 [.int .i64 a, .int .i64 b] w fun r w' => r = .int .i64 (cmpI a b) ∧ w' = w := by
  refine ret_of_c Try.func92 rfl Try.ntmps92 (Nat.le_of_ble_eq_true rfl) (by dsimp only [ini, Nat.reduceAdd] <;> exact rfl) ?_
  repeat' (first
      | ((first | ((with_reducible apply W_op); exact rfl; exact rfl)); (first | ((with_reducible apply r_move); ((conv => lhs; whnf) <;> exact rfl)) | ((with_reducible apply r_assign); ((conv => lhs; whnf) <;> exact rfl)) | ((with_reducible apply r_lss); exact rfl; exact rfl) | ((with_reducible apply r_gtr); exact rfl; exact rfl)))
      | (refine W_call (isNaN_any _ _) rfl ?_; rintro vq wq ⟨rfl, rfl⟩ -)
      | (with_reducible apply W_nil)
      | (with_reducible apply c_seq)
      | ((with_reducible apply c_region); kernel_rfl)
      | (with_reducible apply n_nq)
      | (with_reducible apply c_skip)
      | (with_reducible apply c_ret)
      | ((with_reducible apply c_cond_false); exact rfl)
      | ((with_reducible apply c_cond_dec); exact rfl; intro _; rotate_left 1; intro _)
      | (with_reducible apply n_then)
      | (with_reducible apply r_then)
      | ((with_reducible apply p_ret1); exact rfl; exact rfl; ((conv => lhs; whnf) <;> exact rfl); refine ⟨_, rfl, ?_, (by repeat (first | assumption | exact Ex.refl _ | (refine Ex.trans ?_ (by assumption)) | (refine Ex.of_grown ?_ (by assumption) (by intro k hk; cases hk; omega))))⟩))
  all_goals first
    | exact ⟨by rw [cmpI_lt (by assumption)], rfl⟩
    | exact ⟨by rw [cmpI_gt (by assumption) (by assumption)], rfl⟩
    | exact ⟨by rw [cmpI_eq (by assumption) (by assumption)], rfl⟩
theorem Or_any (v : Value) (xs : List Int) (w : World) (h : Ints w v xs) : Ret Try.prog 91 [v] w fun r w' => r = .int .i64 (firstNZ xs) ∧ w' = w := by
  have hl := h.len
  refine ret_of_c Try.func91 rfl Try.ntmps91 (Nat.le_of_ble_eq_true rfl) (by dsimp only [ini, Nat.reduceAdd] <;> exact rfl) ?_
  repeat' (first
      | ((first | ((with_reducible apply W_op); exact rfl; exact rfl)); (first | ((with_reducible apply r_move); ((conv => lhs; whnf) <;> exact rfl)) | ((with_reducible apply r_assign); ((conv => lhs; whnf) <;> exact rfl)) | ((with_reducible apply r_load); exact rfl; exact rfl; (first | assumption | exact (Bx.cell (by repeat (first | assumption | ((with_reducible apply Bx.grownS); assumption; (first | omega | exact Bx.ne (by assumption) (by omega))) | ((with_reducible apply Bx.below); assumption; omega) | ((with_reducible apply Bx.ex); assumption))) _).trans rfl | exact Ex.cell (by assumption) (by assumption))) | ((with_reducible apply r_lss); exact rfl; exact rfl) | ((with_reducible apply r_neq); exact rfl; exact rfl) | ((with_reducible apply r_add); exact rfl; exact rfl; omega) | ((with_reducible apply r_lenInts); ((conv => lhs; whnf) <;> exact rfl); (focus ((repeat (first | assumption | ((with_reducible apply Bx.grownS); assumption; (first | omega | exact Bx.ne (by assumption) (by omega))) | ((with_reducible apply Bx.below); assumption; omega) | ((with_reducible apply Own.grownS); assumption; omega) | ((with_reducible apply Bx.ex); assumption) | ((with_reducible apply IntsK.ex); assumption) | ((with_reducible apply Own.ex); assumption) | ((with_reducible apply Prs.ex); assumption))); done)))))
      | ((with_reducible (show C _ _ _ _ _ _)); refine c_loopG (fun (k : Nat) ps wr => ∃ i : Int, ps = [(3, .int .i64 0), (6, v), (7, .int .i64 xs.length), (8, .int .i64 i)] ∧ i = k ∧ k ≤ xs.length ∧ (∀ j, j < k → xs.getD j 0 = 0) ∧ wr = w ∧ Ex w wr) (fun k => xs.length - k) 0 _ ⟨_, rfl, rfl, Nat.zero_le _, fun j hj => absurd hj (Nat.not_lt_zero _), rfl, (by repeat (first | assumption | exact Ex.refl _ | (refine Ex.trans ?_ (by assumption)) | (refine Ex.of_grown ?_ (by assumption) (by intro k hk; cases hk; omega))))⟩ ⟨rfl, rfl, rfl, rfl, trivial⟩ (by ((conv => lhs; whnf) <;> exact rfl)) (by ((conv => lhs; whnf) <;> exact rfl)) ?_; rintro J hJ k u ps wr ⟨i, rfl, rfl, hk, h0, rfl, he⟩; have hsz := he.size)
      | ((with_reducible (show Exit.then _ _ _ _ _)); refine n_roundG (k + 1) (hJ _ _ _ _ ⟨_, rfl, by omega, by omega, below_succ h0 (by omega), rfl, (by repeat (first | assumption | exact Ex.refl _ | (refine Ex.trans ?_ (by assumption)) | (refine Ex.of_grown ?_ (by assumption) (by intro k hk; cases hk; omega))))⟩ ⟨rfl, rfl, rfl, rfl, trivial⟩ rfl) (by omega))
      | (with_reducible apply W_nil)
      | ((with_reducible apply W_indexInt); ((conv => lhs; whnf) <;> exact rfl); (focus ((repeat (first | assumption | ((with_reducible apply Bx.grownS); assumption; (first | omega | exact Bx.ne (by assumption) (by omega))) | ((with_reducible apply Bx.below); assumption; omega) | ((with_reducible apply Own.grownS); assumption; omega) | ((with_reducible apply Bx.ex); assumption) | ((with_reducible apply IntsK.ex); assumption) | ((with_reducible apply Own.ex); assumption) | ((with_reducible apply Prs.ex); assumption))); done)); exact rfl; omega; intro pq hpq)
      | (with_reducible apply c_seq)
      | ((with_reducible apply c_region); kernel_rfl)
      | (with_reducible apply n_nq)
      | (with_reducible apply c_block)
      | (with_reducible apply c_skip)
      | (with_reducible apply c_ret)
      | (with_reducible apply c_exit)
      | ((with_reducible apply c_cond_dec); exact rfl; intro _; rotate_left 1; intro _)
      | (with_reducible apply n_then)
      | (with_reducible apply n_block)
      | (with_reducible apply e_then)
      | (with_reducible apply e_block)
      | (with_reducible apply r_then)
      | (with_reducible apply r_block)
      | ((with_reducible apply p_ret1); exact rfl; exact rfl; ((conv => lhs; whnf) <;> exact rfl); refine ⟨_, rfl, ?_, (by repeat (first | assumption | exact Ex.refl _ | (refine Ex.trans ?_ (by assumption)) | (refine Ex.of_grown ?_ (by assumption) (by intro k hk; cases hk; omega))))⟩))
  all_goals first
    | exact ⟨by rw [firstNZ_at (k := k) (by omega) h0 (by omega)], rfl⟩
    | exact ⟨by rw [firstNZ_no fun j hj => h0 j (by omega)], rfl⟩
theorem numCompare_any (a1 a2 a3 c1 c2 c3 : Int) (w : World) : Ret Try.prog 84 [.agg #[.int .i64 a1, .int .i64 a2, .int .i64 a3], .agg #[.int .i64 c1, .int .i64 c2, .int .i64 c3]] w fun r w' => r = .int .i64 (cmpN (a1, a3) (c1, c3)) ∧ Gw w w' := by
  refine ret_of_c Try.func84 rfl Try.ntmps84 (Nat.le_of_ble_eq_true rfl) (by dsimp only [ini, Nat.reduceAdd] <;> exact rfl) ?_
  (with_reducible apply c_seq); (with_reducible apply c_region); kernel_rfl
  (with_reducible apply W_boxG); exact rfl; exact rfl; intro b1 w1 hb1 he1 hG1 hn1; have hl1 := Bx.lt hb1; have hs1 := he1.size
  (with_reducible apply W_boxG); exact rfl; exact rfl; intro b2 w2 hb2 he2 hG2 hn2; have hl2 := Bx.lt hb2; have hs2 := he2.size
  have hb1 := hb1.ex he2
  have he3 := he1.trans he2
  have hG3 := hG1.trans hG2
  clear he1 he2 hG1 hG2
  repeat' (first
      | (refine c_mixR (id := 1) (keepB ([])) [2, 5, 8, 10] [0, 1, 2, 3, 4, 5, 7, 8, 9, 10] 5 #[true, true, true, true, true, true, false, true, true, true, true, false, false, false, false] [some false, some false, some true, some false, some false, some true, none, some false, some true, some false, some true, none, none, none, none] (by kernel_rfl) (by kernel_rfl) (by kernel_rfl) (by dsimp only [selT] <;> exact rfl) ?_)
      | ((with_reducible apply WMR_nilG); intro wq he hszq hGq; have hsz := he.size; have hG3 := hG3.trans hGq; clear hGq)
      | ((with_reducible apply W_bs2G); ((conv => lhs; whnf) <;> exact rfl); ((conv => lhs; whnf) <;> exact rfl); exact rfl; exact rfl; exact rfl; intro bq wq hbq he hGq hnq; have hltq := Bx.lt hbq; have hsz := he.size; have hG3 := hG3.trans hGq; clear hGq)
      | ((first | ((with_reducible apply W_op); exact rfl; exact rfl) | ((with_reducible apply WQ_op); exact rfl; exact rfl; intro wq he) | ((with_reducible apply WM_op); exact rfl; exact rfl; intro wq he) | ((with_reducible apply WB_op); exact rfl; exact rfl; intro wq)); (first | ((with_reducible apply r_assign); ((conv => lhs; whnf) <;> exact rfl))))
      | (refine XTR_one (t := 6) (s := false) (listed := #[true, true, true, true, true, true, false, true, true, true, true, false, false, false, false]) (listed' := #[true, true, true, true, true, true, true, true, true, true, true, false, false, false, false]) (by kernel_rfl) rfl (by kernel_rfl) (by kernel_rfl) ?_)
      | (refine XTR_one (t := 11) (s := true) (listed := #[true, true, true, true, true, true, true, true, true, true, true, false, false, false, false]) (listed' := #[true, true, true, true, true, true, true, true, true, true, true, true, false, false, false]) (by kernel_rfl) rfl (by kernel_rfl) (by kernel_rfl) ?_)
      | (refine XTR_one (t := 12) (s := true) (listed := #[true, true, true, true, true, true, true, true, true, true, true, true, false, false, false]) (listed' := #[true, true, true, true, true, true, true, true, true, true, true, true, true, false, false]) (by kernel_rfl) rfl (by kernel_rfl) (by kernel_rfl) ?_)
      | (refine XTR_one (t := 13) (s := true) (listed := #[true, true, true, true, true, true, true, true, true, true, true, true, true, false, false]) (listed' := #[true, true, true, true, true, true, true, true, true, true, true, true, true, true, false]) (by kernel_rfl) rfl (by kernel_rfl) (by kernel_rfl) ?_)
      | (refine XTR_one (t := 14) (s := true) (listed := #[true, true, true, true, true, true, true, true, true, true, true, true, true, true, false]) (listed' := #[true, true, true, true, true, true, true, true, true, true, true, true, true, true, true]) (by kernel_rfl) rfl (by kernel_rfl) (by kernel_rfl) ?_)
      | ((with_reducible apply WMR_op); exact rfl; exact rfl; (intro wq hkb; (first | ((with_reducible apply r_fieldAddr); exact rfl))))
      | ((with_reducible apply XTR_nil); kernel_rfl)
      | (with_reducible apply xR_sink)
      | ((with_reducible apply xR_keep); first | exact (keepB _).refl _ | exact KeepB.of_ex (by assumption) | exact KeepB.of_grown (by assumption) (by simp))
      | ((with_reducible apply WMR_op); exact rfl; exact rfl; (intro wq hkb; exact r_load rfl rfl ((Bx.cell (Bx.keepB hb1 (by simp) (hkb rfl)) _).trans rfl)))
      | ((with_reducible apply WMR_op); exact rfl; exact rfl; (intro wq hkb; exact r_load rfl rfl ((Bx.cell (Bx.keepB hb2 (by simp) (hkb rfl)) _).trans rfl)))
      | (refine W_call (Compare_any _ _ _) rfl ?_; rintro vq wq ⟨rfl, rfl⟩ -)
      | (refine W_call (Or_any _ [cmpI a1 c1, cmpI a3 c3] _ (IntsK.built hbq rfl (by simp))) rfl ?_; rintro vq wq ⟨rfl, rfl⟩ -)
      | (with_reducible apply W_nil)
      | (with_reducible apply c_seq)
      | (with_reducible apply n_nq)
      | (with_reducible apply c_ret)
      | (with_reducible apply n_then)
      | ((with_reducible apply p_ret1); exact rfl; exact rfl; ((conv => lhs; whnf) <;> exact rfl); refine ⟨_, rfl, ?_, (by repeat (first | assumption | exact Ex.refl _ | (refine Ex.trans ?_ (by assumption)) | (refine Ex.of_grown ?_ (by assumption) (by intro k hk; cases hk; omega))))⟩))
  all_goals exact ⟨rfl, hG3⟩
end Go.Proofs.Ytjcigpakljfkeaa
