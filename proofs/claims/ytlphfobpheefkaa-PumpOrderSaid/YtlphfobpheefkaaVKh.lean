/-
  What this text proves: making a slice of ints, an element's address in it, a store into it and a copy of it. Over any program. ints of the call's own, sorted in place by the library; x[:j] of pairs. Over any program.
-/
import Derived.Test.YtlphfobpheefkaaVg
import Derived.Test.YtlphfobpheefkaaMml
import Derived.Laws.CopyRow
import Derived.Laws.MakeOwn
import Derived.Sort.Grow
import Derived.Sort.OwnSortedInts
import Derived.Test.YtlphfobpheefkaaSh
import Derived.Test.YtlphfobpheefkaaFacts
import Derived.Test.YtlphfobpheefkaaFam
set_option linter.unusedVariables false
set_option linter.unusedSimpArgs false
namespace Go.Pv
open Go.RowKit Go.Sort
section
variable {P : Program} {Q : Exit → Act → World → Prop} {ol rest : List Oper} {l : St} {w : World} {od : Option Nat} {ty : TypeId} {pos : String} {af : Array Edge}
/-- make of a slice, its length and its room the same. -/
theorem W_make {d m : Nat} {x y : Operand} {T e : TypeId} {z : Value} {n b : Nat} {c : List Value} [hT : Und P T (.slice e)] [hz : Sz P e z n b] (hx : ev l x = .int .i64 (m : Int)) (hy : ev l y = .int .i64 (m : Int)) (hc : (madeCells z.cells (m * n)).toList = c) (hm : m ≤ 1000) (hb : b ≤ 1000000)
    (K : ∀ b' w', Bx w' b' c e → Ex w w' → b' = w.heap.size → W P ol Q rest (upd l d (.slice (some ⟨b', 0, none⟩) m m)) w') : W P ol Q (⟨some d, .makeSlice T x y, ty, pos, af, none⟩ :: rest) l w := by
  subst hc
  obtain ⟨i, h1, h2, h3, h4⟩ := hz.parts
  have hbb : (b : Int) * (m : Int) ≤ 1000000 * 1000 := Int.mul_le_mul (by omega) (by omega) (by omega) (by omega)
  have h := run_make (P := P) w T e i z hT.out h1 h2 .i64 .i64 m m (by omega) (by omega) (by rw [h4]; omega) (by omega)
  simp only [Int.toNat_natCast] at h
  rw [h3] at h
  refine W_run (w' := w.alloc (.cells (madeCells z.cells (m * n)) e)) rfl rfl ?_ (K w.heap.size _ ?_ (Ex.alloc _ _) rfl)
  · simp only [execOp, hx, hy, Sem.run_bind, h, Result.andThen_ok, Sem.run_pure]
  · have := Bx.new w (madeCells z.cells (m * n)).toList e
    simpa using this
/-- The address of an element of a slice that is a whole box. -/
theorem r_indexBx {x ix : Operand} {T e : TypeId} {b i m c n bb : Nat} {k : IntKind} {z : Value} [h : Und P T (.slice e)] [hs : Sz P e z n bb] (hx : ev l x = .slice (some ⟨b, 0, none⟩) m c) (hi : ev l ix = .int k (i : Int)) (hlt : i < m) : Runs P ⟨od, .indexAddr T x ix, ty, pos, af, none⟩ l w (.pointer (some ⟨b, i * n, none⟩)) := by
  have := r_indexAddr (P := P) (T := T) (od := od) (ty := ty) (pos := pos) (af := af) (w := w) (e := e) hx hi hlt
  rwa [add_mk, Nat.zero_add] at this
/-- copy of ints into a block. -/
theorem W_copyB {d b o dl dc : Nat} {x y : Operand} {T T2 e TT : TypeId} {bytes : Nat} {z : Value} {v : Value} {xs : List Int} {c c' : List Value} [hT : Und P T (.slice e)] [hz : Sz P e z 1 bytes]
    (hx : ev l x = .slice (some ⟨b, o, none⟩) dl dc) (hy : ev l y = v) (hv : Ints w v xs) (hle : xs.length ≤ dl) (hb : Bx w b c TT) (hfit : o + xs.length ≤ c.length) (hc' : c.take o ++ xs.map (Value.int .i64) ++ c.drop (o + xs.length) = c')
    (K : ∀ w', Bx w' b c' TT → w.grownBy w' (some b) → W P ol Q rest (upd l d (.int .i64 xs.length)) w') :
    W P ol Q (⟨some d, .call { callee := .builtin .copy, args := #[x, y], argTypes := #[T, T2] }, ty, pos, af, none⟩ :: rest) l w := by
  subst hc'
  have hlen := hv.len
  unfold Ints IntsK Sl at hv
  obtain ⟨_, a, cap, rfl, hcp, hm, hall⟩ := hv
  have hb0 := hb
  unfold Bx at hb0
  obtain ⟨i, h1, h2, h3, h4⟩ := hz.parts
  have hs1 : (P.info? e).map (·.size) = some 1 := by rw [h1]; simp [h3]
  have hgi : goInt xs.length = .int .i64 xs.length := rfl
  cases a with
  | none =>
    have hnil : xs = [] := by
      cases xs with
      | nil => rfl
      | cons x r => obtain ⟨p, u, hp, _⟩ := hall 0 (by simp); cases hp
    subst hnil
    refine W_run (w' := w) rfl rfl ?_ (by
      have := K w (by simpa using hb) (World.grownBy_refl' _ _)
      simpa using this)
    have hcap : cap = 0 ∨ cap ≠ 0 := by omega
    simp [execOp, resolve, Deferred.ofValue, invoke, builtin, hx, hy, Builtin.copy_, run_underlying hT.out, Builtin.lenOf, Builtin.firstCells, sizeOf, typeInfo, h1, storeCells, goInt, IntWalk.i64_in]
  | some p =>
    have hsrc : ∀ j u, (xs.map (Value.int .i64))[j]? = some u → w.cell? (p.add j) = some u := by
      intro j u hj
      simp at hj
      obtain ⟨y, hy1, rfl⟩ := hj
      obtain ⟨hj1, hj2⟩ := List.getElem?_eq_some_iff.1 hy1
      obtain ⟨p', u', hp', hcell, hr⟩ := hall j hj1
      cases hp'
      unfold IntR at hr
      rw [hcell, hr, hj2]
    have hrun := run_copy_row (P := P) w T T2 ty e b o dl dc p xs.length cap c.toArray TT (xs.map (Value.int .i64)) hT.out hs1 hb0 (by rw [List.length_map]; exact (Nat.min_eq_left hle).symm) hsrc (by simpa using hfit) (by simp [Value.oneCell'])
    refine W_run (w' := w.setRow b (c.take o ++ xs.map (Value.int .i64) ++ c.drop (o + xs.length)).toArray) rfl rfl ?_ (K _ ?_ ?_)
    · simp [execOp, resolve, Deferred.ofValue, invoke, builtin, hx, hy, hrun, hgi]
    · unfold Bx; exact setRow_heap w b _ _ _ _ hb0
    · exact ⟨rfl, rfl, rfl, by simp, fun k _ hk => setRow_other w b k _ (fun e => hk (by rw [e]))⟩
/-- copy of the first of some ints into a block that has room for no more. -/
theorem W_copyT {d b o dl dc : Nat} {x y : Operand} {T T2 e TT : TypeId} {bytes : Nat} {z : Value} {v : Value} {xs : List Int} {c c' : List Value} [hT : Und P T (.slice e)] [hz : Sz P e z 1 bytes]
    (hx : ev l x = .slice (some ⟨b, o, none⟩) dl dc) (hy : ev l y = v) (hv : Ints w v xs) (hle : dl ≤ xs.length) (hpos : 0 < xs.length) (hb : Bx w b c TT) (hfit : o + dl ≤ c.length) (hc' : c.take o ++ (xs.take dl).map (Value.int .i64) ++ c.drop (o + dl) = c')
    (K : ∀ w', Bx w' b c' TT → w.grownBy w' (some b) → W P ol Q rest (upd l d (.int .i64 dl)) w') :
    W P ol Q (⟨some d, .call { callee := .builtin .copy, args := #[x, y], argTypes := #[T, T2] }, ty, pos, af, none⟩ :: rest) l w := by
  subst hc'
  have hlen := hv.len
  unfold Ints IntsK Sl at hv
  obtain ⟨_, a, cap, rfl, hcp, hm, hall⟩ := hv
  have hb0 := hb
  unfold Bx at hb0
  obtain ⟨i, h1, h2, h3, h4⟩ := hz.parts
  have hs1 : (P.info? e).map (·.size) = some 1 := by rw [h1]; simp [h3]
  have hgi : goInt dl = .int .i64 dl := rfl
  cases a with
  | none => obtain ⟨p, u, hp, _⟩ := hall 0 hpos; cases hp
  | some p =>
    have hsrc : ∀ j u, ((xs.take dl).map (Value.int .i64))[j]? = some u → w.cell? (p.add j) = some u := by
      intro j u hj
      have hjd : j < dl := by
        rcases Nat.lt_or_ge j dl with h | h
        · exact h
        · rw [List.getElem?_eq_none (by simp; omega)] at hj; cases hj
      rw [List.getElem?_map, List.getElem?_take_of_lt hjd] at hj
      simp at hj
      obtain ⟨y, hy1, rfl⟩ := hj
      obtain ⟨hj1, hj2⟩ := List.getElem?_eq_some_iff.1 hy1
      obtain ⟨p', u', hp', hcell, hr⟩ := hall j hj1
      cases hp'
      unfold IntR at hr
      rw [hcell, hr, hj2]
    have hrun := run_copy_row (P := P) w T T2 ty e b o dl dc p xs.length cap c.toArray TT ((xs.take dl).map (Value.int .i64)) hT.out hs1 hb0 (by rw [List.length_map, List.length_take, Nat.min_eq_left hle]; exact (Nat.min_eq_right hle).symm) hsrc (by rw [List.length_map, List.length_take, Nat.min_eq_left hle]; exact hfit) (by intro u hu; obtain ⟨q, _, rfl⟩ := List.mem_map.1 hu; rfl)
    have hml : ((xs.take dl).map (Value.int .i64)).length = dl := by rw [List.length_map, List.length_take, Nat.min_eq_left hle]
    rw [hml] at hrun
    refine W_run (w' := w.setRow b (c.take o ++ (xs.take dl).map (Value.int .i64) ++ c.drop (o + dl)).toArray) rfl rfl ?_ (K _ ?_ ?_)
    · simp [execOp, resolve, Deferred.ofValue, invoke, builtin, hx, hy, hrun, hgi]
    · unfold Bx; exact setRow_heap w b _ _ _ _ hb0
    · exact ⟨rfl, rfl, rfl, by simp, fun k _ hk => setRow_other w b k _ (fun e => hk (by rw [e]))⟩
theorem made_ints (m : Nat) : (madeCells (Value.int .i64 0).cells (m * 1)).toList = (List.replicate m (0 : Int)).map (Value.int .i64) := by
  have e : (Value.int .i64 0).cells = #[.int .i64 0] := rfl
  rw [e, Nat.mul_one, List.map_replicate]
  apply List.ext_getElem
  · simp [madeCells]
  · intro i h1 h2
    simp [madeCells, Nat.mod_one]
/-- make of ints, all 0. -/
theorem W_makeI {d m : Nat} {x y : Operand} {T e : TypeId} {b : Nat} [hT : Und P T (.slice e)] [hz : Sz P e (.int .i64 0) 1 b] (hx : ev l x = .int .i64 (m : Int)) (hy : ev l y = .int .i64 (m : Int)) (hm : m ≤ 1000) (hb : b ≤ 1000000)
    (K : ∀ b' w', Bx w' b' ((List.replicate m (0 : Int)).map (Value.int .i64)) e → Ex w w' → b' = w.heap.size → W P ol Q rest (upd l d (.slice (some ⟨b', 0, none⟩) m m)) w') : W P ol Q (⟨some d, .makeSlice T x y, ty, pos, af, none⟩ :: rest) l w :=
  W_make hx hy (made_ints m) hm hb K
theorem W_storeBI {b i : Nat} {x y : Operand} {T T' : TypeId} {xs : List Int} {u : Int} {z : Value} {bytes : Nat} [hz : Sz P T z 1 bytes] (hx : ev l x = .pointer (some ⟨b, i * 1, none⟩)) (hb : Bx w b (xs.map (Value.int .i64)) T') (hi : i < xs.length) (hy : ev l y = .int .i64 u)
    (K : ∀ w', Bx w' b ((xs.set i u).map (Value.int .i64)) T' → w.grownBy w' (some b) → W P ol Q rest l w') : W P ol Q (⟨none, .store T x y, ty, pos, af, none⟩ :: rest) l w := by
  rw [Nat.mul_one] at hx
  refine W_store hx hb (by simpa using hi) hy rfl fun w' h1 h2 => K w' ?_ h2
  rw [← lset_eq] at h1
  rwa [List.map_set]
/-- s[1:] of a slice that is a whole box. -/
theorem r_from1 {x lo : Operand} {T e : TypeId} {bb m n : Nat} {k : IntKind} {z : Value} {b : Nat} [h : Und P T (.slice e)] [hs : Sz P e z 1 b] (hx : ev l x = .slice (some ⟨bb, 0, none⟩) m m) (hi : ev l lo = .int k 1) (hm : m = n + 2) :
    Runs P ⟨od, .slice T x (some lo) none none, ty, pos, af, none⟩ l w (.slice (some ⟨bb, 1, none⟩) (n + 1) (n + 1)) := by
  subst hm
  simp [Runs, execOp, hx, hi, Instr.sliceAt, Instr.slice, Instr.sliceBounds, Instr.sliceBound, asIntOf, h.run, hs.run, add_mk]
  intro hh; omega
theorem r_from1a {x lo : Operand} {T e : TypeId} {bb : Nat} {k : IntKind} {z : Value} {b : Nat} [h : Und P T (.slice e)] [hs : Sz P e z 1 b] (hx : ev l x = .slice (some ⟨bb, 0, none⟩) 1 1) (hi : ev l lo = .int k 1) :
    Runs P ⟨od, .slice T x (some lo) none none, ty, pos, af, none⟩ l w (.slice (some ⟨bb, 0, none⟩) 0 0) := by
  simp [Runs, execOp, hx, hi, Instr.sliceAt, Instr.slice, Instr.sliceBounds, Instr.sliceBound, asIntOf, h.run, hs.run, add_mk]
end
theorem Own.ofBx {w : World} {b m base : Nat} {E : TypeId} {xs : List Int} (h : Bx w b (xs.map (Value.int .i64)) E) (hm : m = xs.length) (hl : xs.length ≤ 1000) (hb : base ≤ b) : Own E base w (.slice (some ⟨b, 0, none⟩) m m) xs := by
  subst hm
  unfold Bx at h
  unfold Own
  refine ⟨by unfold maxLen; omega, by simp, .inr ⟨b, xs.length, (xs.map (Value.int .i64)).toArray, rfl, hb, h, Nat.le_refl _, by unfold maxLen; omega, by simp, ?_⟩⟩
  simp
  rw [List.take_of_length_le (by simp)]
def fillA (zs : List Int) (k : Nat) : List Int := zs.take k ++ List.replicate (zs.length - k) 0
theorem fillA_len {zs : List Int} {k : Nat} (h : k ≤ zs.length) : (fillA zs k).length = zs.length := by simp [fillA]; omega
theorem fillA_set {zs : List Int} {k : Nat} (h : k < zs.length) : (fillA zs k).set k (zs.getD k 0) = fillA zs (k + 1) := by
  have hg : zs.getD k 0 = zs[k] := by simp [h]
  unfold fillA
  rw [hg, show zs.length - k = (zs.length - (k + 1)) + 1 by omega, List.replicate_succ, List.set_append_right _ _ (by simp; omega)]
  have e : k - (zs.take k).length = 0 := by simp; omega
  rw [e, List.set_cons_zero, List.take_succ_eq_append_getElem h, List.append_assoc]
  rfl
theorem fillA_zero (zs : List Int) : fillA zs 0 = List.replicate zs.length 0 := by simp [fillA]
theorem fillA_all (zs : List Int) : fillA zs zs.length = zs := by simp [fillA]
end Go.Pv
namespace Go.Pv
open Go.Sort Go.RowKit
def sortL (xs : List Int) : List Int := xs.mergeSort fun x y => decide (x ≤ y)
theorem sortL_len (xs : List Int) : (sortL xs).length = xs.length := List.length_mergeSort xs
section
variable {P : Program} {ol : List Oper} {Q : Exit → Act → World → Prop} {rest : List Oper} {l : St} {w : World}
theorem W_callR {d : Nat} {f : FuncId} {xs : List Operand} {vs : List Value} {tys : Array TypeId} {T : TypeId} {pos : String} {af : Array Edge} {φ : Value → World → Prop} [Fun P f]
    (hc : Calls P f vs.toArray w fun e w' => ∃ v, e = .returned v ∧ φ v w') (hx : evs l xs = vs)
    (k : ∀ v w', φ v w' → W P ol Q rest (upd l d v) w') :
    W P ol Q (⟨some d, .call { callee := .value (.func f), args := xs.toArray, argTypes := tys }, T, pos, af, none⟩ :: rest) l w := by
  unfold W
  refine wpList_plain rfl fun K hK => ?_
  have hrun : (execOp (ev l) ⟨some d, .call { callee := .value (.func f), args := xs.toArray, argTypes := tys }, T, pos, af, none⟩).run P w = .ok (.enter f vs.toArray) w := by
    have := run_call (P := P) (f := f) (vs := vs) (w := w) (first := #[]) (captured := #[])
    simp only [execOp, resolve, List.map_toArray, map_evs, hx, ev]
    simpa using this
  simp only [Oper.wp, eval_act, hrun, Oper.upon_enter]
  refine Calls.mono hc ?_
  rintro e w' ⟨v, rfl, h1⟩
  show K ((act l).put (some d) v) w'
  rw [put_act]
  have hk := k v w' h1
  unfold W at hk
  exact hK _ _ hk
end
theorem sorted_own {P : Program} {f : FuncId} {E : TypeId} {base : Nat} {w : World} {v : Value} {xs : List Int}
    (hC : ∀ (blk off cap : Nat) (zs : List Int) (w : World), Holds (Value.int .i64) w blk off zs.toArray → blk < w.heap.size → zs.length < 4611686018427387904 →
      Calls P f #[.slice (some ⟨blk, off, none⟩) zs.length cap] w fun e w' => e = .returned (.tuple #[]) ∧ ∃ n os, w' = grow (putRow (Value.int .i64) (Sort.ahead w n) blk off (zs.mergeSort fun x y => decide (x ≤ y)).toArray) os)
    (hN : ∀ (p : Option Addr) (cap : Nat) (w : World), Calls P f #[.slice p 0 cap] w fun e w' => e = .returned (.tuple #[]) ∧ w' = w) (hlen : xs.length ≤ 1000000) (h : Own E base w v xs) :
    Calls P f [v].toArray w fun r w' => ∃ u, r = .returned u ∧ Own E base w' v (sortL xs) ∧ w.grownBy w' v.ownBlock := by
  unfold Own at h
  obtain ⟨h0, h1, h2⟩ := h
  rcases h2 with ⟨hv, he⟩ | ⟨g, cap, cur, rfl, hb, hg, h3, h4, h5, h6⟩
  · have e : xs = [] := List.length_eq_zero_iff.1 he
    subst e
    subst hv
    refine Calls.mono (hN none 0 w) ?_
    rintro r w' ⟨rfl, rfl⟩
    exact ⟨_, rfl, (by rw [show sortL [] = [] from by simp [sortL]]; exact Own.nil _ _ _), (Ex.refl w').grownBy⟩
  · have hsz : g < w.heap.size := (Array.getElem?_eq_some_iff.1 hg).1
    rw [Nat.mul_one] at h6
    refine Calls.mono (hC g 0 cap xs w (holds_of_blockI hg h6) hsz (by omega)) ?_
    rintro r w' ⟨rfl, n, os, rfl⟩
    refine ⟨_, rfl, ?_, grownBy_sortedI _⟩
    unfold Own
    have el := sortL_len xs
    have := ownsRow_sortedI (w := w) (n := n) (os := os) (base := base) (ss := xs) (ts := sortL xs) el hb hg h3 h4 h5
    rw [el]
    exact ⟨h0, this⟩
theorem Own.toVs {E : TypeId} {base : Nat} {w : World} {v : Value} {xs : List Int} (h : Own E base w v xs) : OwnV E base w v (xs.map (Value.int .i64)) := by
  unfold Own at h
  unfold OwnV
  simpa using h
theorem Own.ofVs {E : TypeId} {base : Nat} {w : World} {v : Value} {xs : List Int} (h : OwnV E base w v (xs.map (Value.int .i64))) : Own E base w v xs := by
  unfold OwnV at h
  unfold Own
  simpa using h
/-- append of an int to ints of the call's own. -/
theorem W_appendO {P : Program} {ol : List Oper} {Q : Exit → Act → World → Prop} {rest : List Oper} {l : St} {w : World} {ty : TypeId} {pos : String} {af : Array Edge} {d : Nat} {x y : Operand} {T e : TypeId} {bytes base b c : Nat} {v z : Value} {xs : List Int} {m : Int} {w0 : World} [hT : Und P T (.slice e)] [hz : Sz P e z 1 bytes] (hzc : z.cells.size = 1)
    (hx : ev l x = v) (hown : Own e base w v xs) (hy : ev l y = .slice (some ⟨b, 0, none⟩) 1 c) (hb : Bx w b [.int .i64 m] e) (hlen : (xs.length + 1) * bytes ≤ 140737488355328 ∧ xs.length + 1 ≤ 1000000) (h0 : Ex w0 w) (hb0 : w0.heap.size ≤ base) (hbase : base ≤ w.heap.size)
    (K : ∀ v' w', Own e base w' v' (xs ++ [m]) → v'.oneCell' = true → Ex w0 w' → Below base w w' → w.grownBy w' v.ownBlock → W P ol Q rest (upd l d v') w') :
    W P ol Q (⟨some d, .call { callee := .builtin .append, args := #[x, y], argTypes := #[T, T] }, ty, pos, af, none⟩ :: rest) l w :=
  W_appendF hzc rfl hx (Own.toVs hown) hy hb (by simpa using hlen) h0 hb0 hbase fun v' w' k1 k2 k3 k4 _ => by
    have h := Own.ofVs (xs := xs ++ [m]) (by rw [List.map_append]; exact k1)
    exact K v' w' h h.one k2 k3 k4
/-- x[:j] of a slice. -/
def takeV : Value → Nat → Value
  | .slice a n c, j => .slice a j c
  | v, _ => v
theorem Prs.take {w : World} {v : Value} {xs : List (Int × Int)} (hv : Prs w v xs) {j : Nat} (hle : j ≤ xs.length) : Prs w (takeV v j) (xs.take j) := by
  unfold Prs at hv ⊢
  obtain ⟨h0, a, cap, rfl, hc, hm, hall⟩ := hv
  refine ⟨by simp; omega, a, cap, by simp [takeV]; omega, by simp; omega, hm, fun i hi => ?_⟩
  simp at hi
  obtain ⟨p, hp, hcel⟩ := hall i (by omega)
  refine ⟨p, hp, ?_⟩
  rw [List.getElem_take]
  exact hcel
section
variable {P : Program} {l : St} {w : World} {od : Option Nat} {ty : TypeId} {pos : String} {af : Array Edge}
theorem r_takeP {x hx2 : Operand} {T e : TypeId} {v : Value} {i m : Nat} {k : IntKind} {z : Value} {b : Nat} {xs : List (Int × Int)} [h : Und P T (.slice e)] [hs : Sz P e z m b] (hx : ev l x = v) (hv : Prs w v xs) (hi : ev l hx2 = .int k (i : Int)) (hle : i ≤ xs.length) :
    Runs P ⟨od, .slice T x none (some hx2) none, ty, pos, af, none⟩ l w (takeV v i) := by
  unfold Prs at hv
  obtain ⟨_, a, cap, rfl, hc, hm, _⟩ := hv
  have h1 : i ≤ cap := by omega
  cases a <;> simp [Runs, execOp, hx, hi, Instr.sliceAt, Instr.slice, Instr.sliceBounds, Instr.sliceBound, asIntOf, h.run, hs.run, h1, takeV, Addr.add]
end
end Go.Pv
