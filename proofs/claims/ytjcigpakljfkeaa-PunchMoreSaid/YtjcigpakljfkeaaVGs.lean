/-
  What this text proves: a store of a pair into a slice of pairs of the call's own; two slices of the call's own, each in a block of its own; x[:j] of ints. Over any program.
-/
import Derived.Test.YtjcigpakljfkeaaGn
import Derived.Test.YtjcigpakljfkeaaFam
import Derived.Test.YtjcigpakljfkeaaMml
import Derived.Test.YtjcigpakljfkeaaVYe
set_option linter.unusedVariables false
set_option linter.unusedSimpArgs false

namespace Go.Pv
open Go.RowKit
theorem OwnR.lt {α : Type} {f : α → List Value} {n : Nat} {E : TypeId} {base : Nat} {w : World} {v : Value} {xs : List α} (h : OwnR f n E base w v xs) : ∀ k, v.ownBlock = some k → base ≤ k ∧ k < w.heap.size := h.2.lt
theorem OwnR.kept {α : Type} {f : α → List Value} {n : Nat} {E : TypeId} {base : Nat} {w w' : World} {v : Value} {xs : List α} {row : Option Nat} (h : OwnR f n E base w v xs) (hg : w.grownBy w' row) (hne : v.ownBlock = none ∨ v.ownBlock ≠ row) : OwnR f n E base w' v xs := ⟨h.1, h.2.kept hg hne⟩
/-- Two slices of the call's own, each in a block of its own. -/
def TwoR {α : Type} (f : α → List Value) (n : Nat) (E : TypeId) (base : Nat) (w : World) (a b : Value) (xs ys : List α) : Prop := OwnR f n E base w a xs ∧ OwnR f n E base w b ys ∧ ∀ k, a.ownBlock = some k → b.ownBlock ≠ some k
section
variable {α : Type} {f : α → List Value} {n : Nat} {E : TypeId} {base : Nat} {w w' : World} {a a' b b' : Value} {xs ys us : List α}
theorem TwoR.ex (e : Ex w w') (h : TwoR f n E base w a b xs ys) : TwoR f n E base w' a b xs ys := ⟨h.1.ex e, h.2.1.ex e, h.2.2⟩
theorem TwoR.nil (w : World) : TwoR f n E base w (.slice none 0 0) (.slice none 0 0) [] [] := ⟨OwnR.nil _ _ _, OwnR.nil _ _ _, fun k h => by cases h⟩
theorem TwoR.updA (h : TwoR f n E base w a b xs ys) (hg : w.grownBy w' a.ownBlock) (hown : OwnR f n E base w' a' us) (hbl : a'.ownBlock = a.ownBlock ∨ a'.ownBlock = some w.heap.size) : TwoR f n E base w' a' b us ys := by
  refine ⟨hown, h.2.1.kept hg ?_, fun k hk hb => ?_⟩
  · cases e : b.ownBlock with
    | none => exact .inl rfl
    | some k => exact .inr fun e2 => h.2.2 k e2.symm e
  · rcases hbl with hbl | hbl
    · exact h.2.2 k (by rw [← hbl]; exact hk) hb
    · have := (h.2.1.lt k hb).2
      rw [hbl] at hk; cases hk; omega
theorem TwoR.swap (h : TwoR f n E base w a b xs ys) : TwoR f n E base w b a ys xs := ⟨h.2.1, h.1, fun k h1 h2 => h.2.2 k h2 h1⟩
theorem TwoR.updB (h : TwoR f n E base w a b xs ys) (hg : w.grownBy w' b.ownBlock) (hown : OwnR f n E base w' b' us) (hbl : b'.ownBlock = b.ownBlock ∨ b'.ownBlock = some w.heap.size) : TwoR f n E base w' a b' xs us :=
  (h.swap.updA hg hown hbl).swap
end
section ops
variable {P : Program} {ol rest : List Oper} {Q : Exit → Act → World → Prop} {l : St} {w : World} {α : Type} {f : α → List Value} {n : Nat} {ty : TypeId} {pos : String} {af : Array Edge} {T : TypeId}
/-- append(s, v) onto one of the two. -/
theorem W_appendRF {d : Nat} {x y : Operand} {e : TypeId} {zs : Array Value} {bytes base b c : Nat} {v : Value} {xs : List α} {m : α} {w0 : World} (hf : ∀ x, (f x).length = n) (hn : 0 < n) [hT : Und P T (.slice e)] [hz : Sz P e (.agg zs) n bytes] (hzn : zs.size = n)
    (hx : ev l x = v) (hown : OwnR f n e base w v xs) (hy : ev l y = .slice (some ⟨b, 0, none⟩) 1 c) (hb : Bx w b (f m) e) (hone : (f m).all (fun u => u.oneCell') = true) (hlen : (xs.length + 1) * bytes ≤ 140737488355328 ∧ xs.length + 1 ≤ 9223372036854775807) (h0 : Ex w0 w) (hbase : w0.heap.size ≤ base) (hbase2 : base ≤ w.heap.size)
    (K : ∀ v' w', OwnR f n e base w' v' (xs ++ [m]) → Ex w0 w' → Below base w w' → w.grownBy w' v.ownBlock → (v'.ownBlock = v.ownBlock ∨ v'.ownBlock = some w.heap.size) → W P ol Q rest (upd l d v') w') :
    W P ol Q (⟨some d, .call { callee := .builtin .append, args := #[x, y], argTypes := #[T, T] }, ty, pos, af, none⟩ :: rest) l w := by
  obtain ⟨i, h1, h2, h3, h4⟩ := hz.parts
  have hlt := hown.lt
  have hml : xs.length + 1 ≤ maxLen := by unfold maxLen; omega
  unfold OwnR at hown
  have hcell : ∀ j u, (f m)[j]? = some u → w.cell? ((⟨b, 0, none⟩ : Addr).add j) = some u := fun j u hj => by have := Bx.cells hb; unfold Cells at this; exact this j u hj
  have hone' : ∀ u ∈ f m, u.oneCell' = true := by simpa using hone
  obtain ⟨v', w', hr, g1, g2, g3⟩ := run_append_own (P := P) w base T ty e i (.agg zs) n bytes hT.out h1 h2 h3 h4 (by simp [Value.cells, hzn]) hn v xs.length (xs.flatMap f) hown.2 ⟨b, 0, none⟩ 1 c (f m) (by simp [hf m]) hcell (by simpa using hone) hml hlen.1 hbase2
  have hbl := append_block (P := P) (w := w) hT.out h1 h2 h3 h4 hown.2 (by simp [hf m]) hcell hone' (by decide) hml hlen.1 hr
  refine W_run (w' := w') rfl rfl ?_ (K v' w' ⟨by simpa using hml, by simpa using g1⟩ (h0.of_grown g2 fun k hk => by have := hlt k hk; omega) ((Below.refl base w).grown g2 hbase2 fun k hk => (hlt k hk).1) g2 hbl)
  simp only [execOp, resolve, invoke, builtin, Sem.run_bind, Sem.run_pure, Result.andThen_ok, List.map_toArray, List.map_cons, List.map_nil, hx, hy, hr]
end ops
end Go.Pv

namespace Go.Pv
open Go.RowKit
theorem run_storeCells_mid (P : Program) (b o : Nat) (T' : TypeId) : ∀ (vs : List Value) (k : Nat) (pre c post : List Value) (w : World), pre.length = o + k → Bx w b (pre ++ (c ++ post)) T' → vs.length = c.length → (∀ v ∈ vs, v.oneCell' = true) →
    ∃ w', (storeCells ⟨b, o, none⟩ vs k).run P w = .ok () w' ∧ Bx w' b (pre ++ (vs ++ post)) T' ∧ w.grownBy w' (some b)
  | [], k, pre, c, post, w, hk, hb, hl, _ => by
    have : c = [] := by cases c <;> simp_all
    subst this
    exact ⟨w, rfl, hb, World.grownBy_refl' w _⟩
  | v :: vs, k, pre, [], post, w, hk, hb, hl, _ => by simp at hl
  | v :: vs, k, pre, u :: c, post, w, hk, hb, hl, h1 => by
    have hcell : w.cell? ⟨b, pre.length, none⟩ = some u := by rw [hb.cell]; simp
    have hfr := hb.frozen pre.length
    have hst := run_store P w ⟨b, pre.length, none⟩ v .plain (h1 v (by simp))
    rw [hcell] at hst
    simp only [hfr] at hst
    have hb' : Bx (w.setCell ⟨b, pre.length, none⟩ v) b ((pre ++ [v]) ++ (c ++ post)) T' := by
      unfold Bx at hb ⊢
      have : (w.heap.modify b fun | .cells c elem frozen => .cells (c.setIfInBounds pre.length v) elem frozen | o => o)[b]? = some (.cells ((pre ++ [v]) ++ (c ++ post)).toArray T' (0, 0)) := by
        rw [Array.getElem?_modify, if_pos rfl, hb]
        simp
      exact this
    have hg : w.grownBy (w.setCell ⟨b, pre.length, none⟩ v) (some b) := ⟨rfl, rfl, rfl, by simp [World.setCell], fun k _ hk => Below.heap_setCell _ _ _ _ (fun e => hk (by rw [e]))⟩
    obtain ⟨w', h2, h3, h4⟩ := run_storeCells_mid P b o T' vs (k + 1) (pre ++ [v]) c post _ (by simp; omega) hb' (by simpa using hl) (fun x hx => h1 x (by simp [hx]))
    refine ⟨w', ?_, by simpa using h3, hg.trans' h4⟩
    rw [hk] at hst h2
    simp only [storeCells, Sem.run_bind, add_mk, hst, Bool.false_eq_true, if_false, Result.andThen_ok]
    simpa using h2
section rows
variable {α : Type} {f : α → List Value} {n : Nat}
theorem rows_split (hf : ∀ x, (f x).length = n) {xs : List α} {m : Nat} (hm : m < xs.length) (g : α) : xs.flatMap f = (xs.take m).flatMap f ++ (f xs[m] ++ (xs.drop (m + 1)).flatMap f) ∧ (xs.set m g).flatMap f = (xs.take m).flatMap f ++ (f g ++ (xs.drop (m + 1)).flatMap f) ∧ ((xs.take m).flatMap f).length = m * n := by
  refine ⟨?_, ?_, ?_⟩
  · have e : xs = xs.take m ++ (xs[m] :: xs.drop (m + 1)) := by
      rw [List.getElem_cons_drop]; exact (List.take_append_drop m xs).symm
    exact (congrArg (fun l => List.flatMap f l) e).trans (by rw [List.flatMap_append, List.flatMap_cons])
  · rw [List.set_eq_take_append_cons_drop, if_pos hm]
    simp [List.flatMap_append]
  · have : ∀ (l : List α), (l.flatMap f).length = l.length * n := by
      intro l
      induction l with
      | nil => simp
      | cons x r ih => simp [List.flatMap_cons, hf, ih, Nat.succ_mul]; omega
    rw [this, List.length_take, Nat.min_eq_left (by omega)]
end rows
theorem one_pc (x : Int × Int) : ∀ u ∈ pc x, u.oneCell' = true := by
  intro u hu
  unfold pc at hu
  simp at hu
  rcases hu with rfl | rfl <;> rfl
theorem OwnP.at {E : TypeId} {base : Nat} {w : World} {v : Value} {xs : List (Int × Int)} (h : OwnP E base w v xs) {i : Nat} (hi : i < xs.length) : ∃ g cap, v = .slice (some ⟨g, 0, none⟩) xs.length cap ∧ base ≤ g ∧ g < w.heap.size := by
  unfold OwnP at h
  obtain ⟨h0, h1, h2⟩ := h
  rcases h2 with ⟨_, h3⟩ | ⟨g, cap, cur, h3, h4, h5, _⟩
  · omega
  · exact ⟨g, cap, h3, h4, (Array.getElem?_eq_some_iff.1 h5).1⟩
theorem OwnP.cells {E : TypeId} {base g n cap : Nat} {w : World} {xs : List (Int × Int)} (h : OwnP E base w (.slice (some ⟨g, 0, none⟩) n cap) xs) {i : Nat} (hi : i < xs.length) : Cells w ⟨g, i * 2, none⟩ (pc (xs.getD i (0, 0))) := by
  have := h.prs
  unfold Prs at this
  obtain ⟨_, a, c, h1, h2, h3, h4⟩ := this
  cases h1
  obtain ⟨p, hp, hc⟩ := h4 i hi
  cases hp
  rw [add_mk, Nat.zero_add] at hc
  have e : xs.getD i (0, 0) = xs[i] := by simp [hi]
  rw [e]; exact hc
theorem OwnP.lt {E : TypeId} {base : Nat} {w : World} {v : Value} {xs : List (Int × Int)} (h : OwnP E base w v xs) : ∀ k, v.ownBlock = some k → base ≤ k ∧ k < w.heap.size := by unfold OwnP at h; exact h.2.lt
theorem OwnP.kept {E : TypeId} {base : Nat} {w w' : World} {v : Value} {xs : List (Int × Int)} {row : Option Nat} (h : OwnP E base w v xs) (hg : w.grownBy w' row) (hne : v.ownBlock = none ∨ v.ownBlock ≠ row) : OwnP E base w' v xs := by unfold OwnP at h ⊢; exact ⟨h.1, h.2.kept hg hne⟩
section
variable {P : Program} {Q : Exit → Act → World → Prop} {ol rest : List Oper} {l : St} {w : World} {od : Option Nat} {ty : TypeId} {pos : String} {af : Array Edge}
theorem W_storeOP {i g cap n : Nat} {base : Nat} {e T : TypeId} {x y : Operand} {xs : List (Int × Int)} {p : Int × Int} {z : Value} {bytes : Nat} {w0 : World} [hz : Sz P T z 2 bytes] (h0 : Ex w0 w) (hb0 : w0.heap.size ≤ base) (hown : OwnP e base w (.slice (some ⟨g, 0, none⟩) n cap) xs) (hx : ev l x = .pointer (some ⟨g, i * 2, none⟩)) (hi : i < xs.length) (hy : ev l y = .agg (pc p).toArray)
    (K : ∀ w', OwnP e base w' (.slice (some ⟨g, 0, none⟩) n cap) (xs.set i p) → Ex w0 w' → w.grownBy w' (some g) → W P ol Q rest l w') : W P ol Q (⟨none, .store T x y, ty, pos, af, none⟩ :: rest) l w := by
  have hlt := hown.lt g rfl
  unfold OwnP at hown
  obtain ⟨h1, h2, h3⟩ := hown
  rcases h3 with ⟨h4, _⟩ | ⟨g', cap', cur, h4, hb, hh, hn, hm, hs, ht⟩
  · cases h4
  cases h4
  obtain ⟨e1, e2, e3⟩ := rows_split (f := pc) (n := 2) (fun _ => rfl) hi p
  have hc : cur.toList = (xs.flatMap pc) ++ cur.toList.drop (xs.length * 2) := by
    have := (List.take_append_drop (xs.length * 2) cur.toList).symm
    rwa [ht] at this
  have hbx : Bx w g ((xs.take i).flatMap pc ++ (pc xs[i] ++ ((xs.drop (i + 1)).flatMap pc ++ cur.toList.drop (xs.length * 2)))) e := by
    have e4 : (xs.take i).flatMap pc ++ (pc xs[i] ++ ((xs.drop (i + 1)).flatMap pc ++ cur.toList.drop (xs.length * 2))) = cur.toList := by
      conv => rhs; rw [hc, e1]
      simp [List.append_assoc]
    rw [e4]
    unfold Bx
    rw [hh]
  obtain ⟨w', k1, k2, k3⟩ := run_storeCells_mid P g (i * 2) e (pc p) 0 _ (pc xs[i]) _ w (by simpa using e3) hbx rfl (one_pc p)
  have e5 : (xs.take i).flatMap pc ++ (pc p ++ ((xs.drop (i + 1)).flatMap pc ++ cur.toList.drop (xs.length * 2))) = (xs.set i p).flatMap pc ++ cur.toList.drop (xs.length * 2) := by
    rw [e2]; simp [List.append_assoc]
  rw [e5] at k2
  have hlen : ((xs.set i p).flatMap pc).length = xs.length * 2 := by
    have : ∀ l : List (Int × Int), (l.flatMap pc).length = l.length * 2 := by
      intro l
      induction l with
      | nil => rfl
      | cons a r ih => simp [List.flatMap_cons, ih, pc]; omega
    rw [this]; simp
  have hA : ((xs.set i p).flatMap pc ++ cur.toList.drop (xs.length * 2)).toArray.size = cap * 2 := by
    have : cur.toList.length = cap * 2 := by simpa using hs
    simp only [List.size_toArray, List.length_append, hlen, List.length_drop, this]
    omega
  have hB : ((xs.set i p).flatMap pc ++ cur.toList.drop (xs.length * 2)).toArray.toList.take ((xs.set i p).length * 2) = (xs.set i p).flatMap pc := by
    simp only [List.length_set]
    exact List.take_left' hlen
  refine W_skp (w' := w') rfl rfl ?_ (K w' (by unfold OwnP; exact ⟨by simpa using h1, by rw [List.length_set]; exact hlen, .inr ⟨g, cap, ((xs.set i p).flatMap pc ++ cur.toList.drop (xs.length * 2)).toArray, by rw [List.length_set], hb, by unfold Bx at k2; rw [k2], by simpa using hn, hm, hA, hB⟩⟩) (h0.of_grown k3 fun k hk => by cases hk; omega) k3)
  · have e6 : Value.cells (.agg (pc p).toArray) = (pc p).toArray := rfl
    simp [execOp, hx, hy, Instr.storeAt, Instr.sureAddr, storeVar, hz.run, Value.cells, k1]
    simp [pc]
/-- The address of an element of a slice that is a whole box. -/
theorem r_indexBx {x ix : Operand} {T e : TypeId} {b i m c n bb : Nat} {k : IntKind} {z : Value} [h : Und P T (.slice e)] [hs : Sz P e z n bb] (hx : ev l x = .slice (some ⟨b, 0, none⟩) m c) (hi : ev l ix = .int k (i : Int)) (hlt : i < m) : Runs P ⟨od, .indexAddr T x ix, ty, pos, af, none⟩ l w (.pointer (some ⟨b, i * n, none⟩)) := by
  have := r_indexAddr (P := P) (T := T) (od := od) (ty := ty) (pos := pos) (af := af) (w := w) (e := e) hx hi hlt
  rwa [add_mk, Nat.zero_add] at this
end
/-- A slice of pairs and a slice of ints, each in a block of its own. -/
def TwoPI (E F : TypeId) (base : Nat) (w : World) (a b : Value) (xs : List (Int × Int)) (ys : List Int) : Prop := OwnP E base w a xs ∧ Own F base w b ys ∧ ∀ k, a.ownBlock = some k → b.ownBlock ≠ some k
section
variable {E F : TypeId} {base : Nat} {w w' : World} {a a' b b' : Value} {xs us : List (Int × Int)} {ys vs : List Int}
theorem TwoPI.ex (e : Ex w w') (h : TwoPI E F base w a b xs ys) : TwoPI E F base w' a b xs ys := ⟨h.1.ex e, h.2.1.ex e, h.2.2⟩
theorem TwoPI.nil (w : World) : TwoPI E F base w (.slice none 0 0) (.slice none 0 0) [] [] := ⟨OwnP.nil _ _ _, Own.nil _ _ _, fun k h => by cases h⟩
theorem TwoPI.grownS {g : Nat} (hg : w.grownBy w' (some g)) (hb : g < base) (h : TwoPI E F base w a b xs ys) : TwoPI E F base w' a b xs ys := ⟨h.1.grownS hg hb, h.2.1.grownS hg hb, h.2.2⟩
theorem TwoPI.updA (h : TwoPI E F base w a b xs ys) (hg : w.grownBy w' a.ownBlock) (hown : OwnP E base w' a' us) (hbl : a'.ownBlock = a.ownBlock ∨ a'.ownBlock = some w.heap.size) : TwoPI E F base w' a' b us ys := by
  refine ⟨hown, h.2.1.kept hg ?_, fun k hk hb => ?_⟩
  · cases e : b.ownBlock with
    | none => exact .inl rfl
    | some k => exact .inr fun e2 => h.2.2 k e2.symm e
  · rcases hbl with hbl | hbl
    · exact h.2.2 k (by rw [← hbl]; exact hk) hb
    · have := (h.2.1.block k hb).2
      rw [hbl] at hk; cases hk; omega
theorem TwoPI.updB (h : TwoPI E F base w a b xs ys) (hg : w.grownBy w' b.ownBlock) (hown : Own F base w' b' vs) (hbl : b'.ownBlock = b.ownBlock ∨ b'.ownBlock = some w.heap.size) : TwoPI E F base w' a b' xs vs := by
  refine ⟨h.1.kept hg ?_, hown, fun k hk hb => ?_⟩
  · cases e : a.ownBlock with
    | none => exact .inl rfl
    | some k => exact .inr fun e2 => h.2.2 k e e2.symm
  · rcases hbl with hbl | hbl
    · exact h.2.2 k hk (by rw [← hbl]; exact hb)
    · have := (h.1.lt k hk).2
      rw [hbl] at hb; cases hb; omega
end
theorem Own.toVs {E : TypeId} {base : Nat} {w : World} {v : Value} {xs : List Int} (h : Own E base w v xs) : OwnV E base w v (xs.map (Value.int .i64)) := by
  unfold Own at h
  unfold OwnV
  simpa using h
theorem Own.someV {E : TypeId} {base : Nat} {w : World} {v : Value} {xs : List Int} (h : Own E base w v xs) (hi : 0 < xs.length) : ∃ a n c, v = .slice (some a) n c := by
  unfold Own at h
  obtain ⟨h0, h1, h2⟩ := h
  rcases h2 with ⟨_, h3⟩ | ⟨g, cap, cur, h3, h4, h5, _⟩
  · omega
  · exact ⟨_, _, _, h3⟩
theorem OwnP.toR {E : TypeId} {base : Nat} {w : World} {v : Value} {xs : List (Int × Int)} (h : OwnP E base w v xs) : OwnR pc 2 E base w v xs := by
  unfold OwnP at h; unfold OwnR; exact h
theorem OwnP.ofR {E : TypeId} {base : Nat} {w : World} {v : Value} {xs : List (Int × Int)} (h : OwnR pc 2 E base w v xs) : OwnP E base w v xs := by
  unfold OwnP; unfold OwnR at h; exact h
section
variable {P : Program} {Q : Exit → Act → World → Prop} {ol rest : List Oper} {l : St} {w : World} {ty : TypeId} {pos : String} {af : Array Edge}
/-- append of ints that lie somewhere, also of none: in which block is written. -/
theorem W_appendI2 {d : Nat} {x y : Operand} {T e : TypeId} {bytes base : Nat} {v u z : Value} {xs : List Value} {ys : List Int} {w0 : World} [hT : Und P T (.slice e)] [hz : Sz P e z 1 bytes] (hzc : z.cells.size = 1)
    (hx : ev l x = v) (hown : OwnV e base w v xs) (hy : ev l y = u) (hu : Ints w u ys) (hnn : Nn u) (hlen : (xs.length + ys.length) * bytes ≤ 140737488355328 ∧ xs.length + ys.length ≤ 1000000) (h0 : Ex w0 w) (hb0 : w0.heap.size ≤ base) (hbase : base ≤ w.heap.size)
    (K : ∀ v' w', OwnV e base w' v' (xs ++ ys.map (Value.int .i64)) → Ex w0 w' → Below base w w' → w.grownBy w' v.ownBlock → W P ol Q rest (upd l d v') w') :
    W P ol Q (⟨some d, .call { callee := .builtin .append, args := #[x, y], argTypes := #[T, T] }, ty, pos, af, none⟩ :: rest) l w := by
  have hv := hu.vals
  unfold Vals Sl at hv
  obtain ⟨_, oa, cap, hue, hc, hm, hall⟩ := hv
  obtain ⟨i, h1, h2, h3, h4⟩ := hz.parts
  subst hue
  cases oa with
  | none =>
    have hn : ys = [] := by
      cases ys with
      | nil => rfl
      | cons a r => obtain ⟨p, q, e1, _⟩ := hall 0 (by simp); cases e1
    subst hn
    have hcap : cap = 0 := by
      rcases hnn with e | ⟨_, _, _, e⟩ <;> simp at e
      exact e
    subst hcap
    have hown2 := hown
    unfold OwnV at hown2
    have hk := K v w (by simpa using hown) h0 (Below.refl _ _) (World.grownBy_refl' _ _)
    unfold W at hk ⊢
    refine wpList_append_own_none rfl x y T rfl base e i 1 hT.out h1 v xs.length xs (by rw [eval_act]; exact hx) hown2.2 (by rw [eval_act]; exact hy) ?_
    rw [put_act]
    exact hk
  | some a =>
    have hcell : ∀ j q, (ys.map (Value.int .i64))[j]? = some q → w.cell? (a.add j) = some q := by
      intro j q hj
      have hj' : j < (ys.map (Value.int .i64)).length := by
        rcases Nat.lt_or_ge j (ys.map (Value.int .i64)).length with h | h
        · exact h
        · rw [List.getElem?_eq_none h] at hj; cases hj
      obtain ⟨p, q1, hp, hq1, hq2⟩ := hall j hj'
      cases hp
      rw [List.getElem?_eq_getElem hj'] at hj
      cases hj
      rw [hq1, hq2]
    have hlt := hown.lt
    have hown2 := hown
    unfold OwnV at hown2
    have hml : xs.length + ys.length ≤ maxLen := by unfold maxLen; omega
    obtain ⟨v', w', hr, g1, g2, g3⟩ := run_append_own (P := P) w base T ty e i z 1 bytes hT.out h1 h2 h3 h4 hzc (by decide) v xs.length xs hown2.2 a (ys.map (Value.int .i64)).length cap (ys.map (Value.int .i64)) (by simp) hcell (by simp [Value.oneCell']) (by simpa using hml) (by simpa using hlen.1) hbase
    refine W_run (w' := w') rfl rfl ?_ (K v' w' (by unfold OwnV; exact ⟨by simpa using hml, by simpa using g1⟩) (h0.of_grown g2 fun k hk => by have := hlt k hk; omega) ((Below.refl base w).grown g2 hbase fun k hk => (hlt k hk).1) g2)
    simp only [execOp, resolve, invoke, builtin, Sem.run_bind, Sem.run_pure, Result.andThen_ok, List.map_toArray, List.map_cons, List.map_nil, hx, hy, hr]
end
section
variable {P : Program} {ol : List Oper} {l : St} {w : World} {ρ : World → World → Prop}
theorem XTR_four {qs : List Nat} {Q : Act → World → Prop} {n t1 t2 t3 t4 : Nat} {s1 s2 s3 s4 : Bool} {o1 o2 o3 o4 : Oper} {listed l1 l2 l3 l4 : Array Bool} (hr : Region.ready .any ol.toArray listed = [t1, t2, t3, t4]) (ho1 : ol[t1]? = some o1) (ho2 : ol[t2]? = some o2) (ho3 : ol[t3]? = some o3) (ho4 : ol[t4]? = some o4) (hs1 : sinkT ol.toArray qs t1 = s1) (hs2 : sinkT ol.toArray qs t2 = s2) (hs3 : sinkT ol.toArray qs t3 = s3) (hs4 : sinkT ol.toArray qs t4 = s4)
    (hl1 : listed.setIfInBounds t1 true = l1) (hl2 : listed.setIfInBounds t2 true = l2) (hl3 : listed.setIfInBounds t3 true = l3) (hl4 : listed.setIfInBounds t4 true = l4)
    (h1 : W P ol (QTR ρ s1 w (anyXR ρ P ol.toArray qs Q n l1)) [o1] l w) (h2 : W P ol (QTR ρ s2 w (anyXR ρ P ol.toArray qs Q n l2)) [o2] l w) (h3 : W P ol (QTR ρ s3 w (anyXR ρ P ol.toArray qs Q n l3)) [o3] l w) (h4 : W P ol (QTR ρ s4 w (anyXR ρ P ol.toArray qs Q n l4)) [o4] l w) : XTR ρ P ol qs Q (n + 1) listed l w := by
  subst hs1; subst hl1; subst hs2; subst hl2; subst hs3; subst hl3; subst hs4; subst hl4
  unfold W at h1 h2 h3 h4
  unfold XTR
  refine ⟨fun h0 => (by rw [hr] at h0; cases h0), fun i hi => ?_⟩
  rw [hr] at hi
  have : i = t1 ∨ i = t2 ∨ i = t3 ∨ i = t4 := by simpa using hi
  rcases this with rfl | rfl | rfl | rfl
  · unfold wpOp
    simp only [List.getElem?_toArray, ho1]
    exact h1
  · unfold wpOp
    simp only [List.getElem?_toArray, ho2]
    exact h2
  · unfold wpOp
    simp only [List.getElem?_toArray, ho3]
    exact h3
  · unfold wpOp
    simp only [List.getElem?_toArray, ho4]
    exact h4
end
section
variable {P : Program} {ol : List Oper} {l : St} {w : World} {ρ : World → World → Prop}
theorem XTR_agree {qs : List Nat} {Q : Act → World → Prop} {m n : Nat} {ds : List Nat} {listed : Array Bool} {ps : List (Nat × Value)} (h : ∀ u, XTR ρ P ol qs Q m listed ⟨n, u, ps, ds⟩ w) (ha : agree l ps) (hn : fin l = (n, ds)) : XTR ρ P ol qs Q m listed l w := by
  have := h (nth l)
  unfold XTR at this ⊢
  rw [fin_act ha hn]; exact this
/-- In a region that draws its order: what is true whichever of several operations came first. -/
theorem XTR_cut {qs : List Nat} {Q : Act → World → Prop} {m m' n : Nat} {ds : List Nat} {listed listed' : Array Bool} (I : List (Nat × Value) → World → Prop) (k : ∀ u ps w', I ps w' → XTR ρ P ol qs Q m' listed' ⟨n, u, ps, ds⟩ w')
    (h : (∀ l' w' ps, I ps w' → agree l' ps → fin l' = (n, ds) → XTR ρ P ol qs Q m' listed' l' w') → XTR ρ P ol qs Q m listed l w) : XTR ρ P ol qs Q m listed l w :=
  h fun l' w' ps hi ha hn => XTR_agree (fun u => k u ps w' hi) ha hn
end
theorem OwnP.ofV0 {E : TypeId} {base b : Nat} {w : World} (h : OwnV E base w (.slice (some ⟨b, 0, none⟩) 0 0) []) : OwnP E base w (.slice (some ⟨b, 0, none⟩) 0 0) [] := by
  unfold OwnV at h
  unfold OwnP
  obtain ⟨h0, h1, h2⟩ := h
  refine ⟨h0, rfl, ?_⟩
  rcases h2 with ⟨h2, _⟩ | ⟨g, cap, cur, h3, h4, h5, h6, h7, h8, h9⟩
  · cases h2
  · cases h3
    exact .inr ⟨_, 0, cur, rfl, h4, h5, Nat.le_refl _, h7, by simpa using h8, by simp⟩
theorem OwnP.belowO {E : TypeId} {base B : Nat} {w w' : World} {v : Value} {xs : List (Int × Int)} (h : OwnP E base w v xs) (hk : ∀ k, v.ownBlock = some k → k < B) (e : Below B w w') : OwnP E base w' v xs := by
  unfold OwnP at *
  obtain ⟨h0, h1, h2⟩ := h
  refine ⟨h0, h1, ?_⟩
  rcases h2 with h2 | ⟨g, cap, cur, rfl, h4, h5, h6⟩
  · exact .inl h2
  · exact .inr ⟨g, cap, cur, rfl, h4, (e.block g (hk g rfl)).trans h5, h6⟩
theorem OwnP.nn {E : TypeId} {base : Nat} {w : World} {v : Value} {xs : List (Int × Int)} (h : OwnP E base w v xs) : Nn v := by
  unfold OwnP at h
  obtain ⟨_, _, h2⟩ := h
  rcases h2 with ⟨e, -⟩ | ⟨g, cap, cur, e, -⟩
  · exact .inl e
  · exact .inr ⟨_, _, _, e⟩
theorem TwoR.grownS {α : Type} {f : α → List Value} {n g : Nat} {E : TypeId} {base : Nat} {w w' : World} {a b : Value} {xs ys : List α} (hg : w.grownBy w' (some g)) (hb : g < base) (h : TwoR f n E base w a b xs ys) : TwoR f n E base w' a b xs ys := ⟨h.1.grownS hg hb, h.2.1.grownS hg hb, h.2.2⟩
section
variable {P : Program} {Q : Exit → Act → World → Prop} {ol rest : List Oper} {l : St} {w : World} {ty : TypeId} {pos : String} {af : Array Edge}
/-- append of pairs that lie somewhere, also of none. -/
theorem W_appendPs {d : Nat} {x y : Operand} {T e : TypeId} {bytes base : Nat} {v u : Value} {zs : Array Value} {xs ys : List (Int × Int)} {w0 : World} [hT : Und P T (.slice e)] [hz : Sz P e (.agg zs) 2 bytes] (hzn : zs.size = 2)
    (hx : ev l x = v) (hown : OwnP e base w v xs) (hy : ev l y = u) (hu : Prs w u ys) (hnn : Nn u) (hlen : (xs.length + ys.length) * bytes ≤ 140737488355328 ∧ xs.length + ys.length ≤ 1000000) (h0 : Ex w0 w) (hb0 : w0.heap.size ≤ base) (hbase : base ≤ w.heap.size)
    (K : ∀ v' w', OwnP e base w' v' (xs ++ ys) → Ex w0 w' → Below base w w' → w.grownBy w' v.ownBlock → W P ol Q rest (upd l d v') w') :
    W P ol Q (⟨some d, .call { callee := .builtin .append, args := #[x, y], argTypes := #[T, T] }, ty, pos, af, none⟩ :: rest) l w := by
  unfold Prs at hu
  obtain ⟨_, oa, cap, hue, hc, hm, hall⟩ := hu
  obtain ⟨i, h1, h2, h3, h4⟩ := hz.parts
  subst hue
  have hpl : ∀ l : List (Int × Int), (l.flatMap pc).length = l.length * 2 := by
    intro l
    induction l with
    | nil => rfl
    | cons a r ih => simp [List.flatMap_cons, ih, pc]; omega
  have hlt := hown.lt
  have hown2 := hown
  unfold OwnP at hown2
  cases oa with
  | none =>
    have hn : ys = [] := by
      cases ys with
      | nil => rfl
      | cons a r => obtain ⟨p, e1, _⟩ := hall 0 (by simp); cases e1
    subst hn
    have hcap : cap = 0 := by
      rcases hnn with e | ⟨_, _, _, e⟩ <;> simp at e
      exact e
    subst hcap
    have hk := K v w (by simpa using hown) h0 (Below.refl _ _) (World.grownBy_refl' _ _)
    unfold W at hk ⊢
    refine wpList_append_own_none rfl x y T rfl base e i 2 hT.out h1 v xs.length (xs.flatMap pc) (by rw [eval_act]; exact hx) hown2.2 (by rw [eval_act]; exact hy) ?_
    rw [put_act]
    exact hk
  | some a =>
    have hcell : ∀ j q, (ys.flatMap pc)[j]? = some q → w.cell? (a.add j) = some q := by
      intro j q hj
      have hj' : j < ys.length * 2 := by
        rcases Nat.lt_or_ge j (ys.length * 2) with h | h
        · exact h
        · rw [List.getElem?_eq_none (by rw [hpl]; exact h)] at hj; cases hj
      obtain ⟨p, hp, hq1⟩ := hall (j / 2) (by omega)
      cases hp
      unfold Cells at hq1
      have hgj : (pc ys[j / 2])[j % 2]? = some q := by
        have hv : ∃ v, (pc ys[j / 2])[j % 2]? = some v := by
          have : j % 2 < (pc ys[j / 2]).length := by simp [pc]; omega
          exact ⟨_, List.getElem?_eq_getElem this⟩
        obtain ⟨v, hv⟩ := hv
        have := pc_flat_get ys (j / 2) (by omega) (j % 2) v hv
        rw [show j / 2 * 2 + j % 2 = j by omega, hj] at this
        rw [hv]; exact this.symm
      have h5 := hq1 (j % 2) q hgj
      have e5 : (a.add (j / 2 * 2)).add (j % 2) = a.add j := by
        rw [Addr.add_add, show j / 2 * 2 + j % 2 = j by omega]
      rwa [e5] at h5
    have hml : xs.length + ys.length ≤ maxLen := by unfold maxLen; omega
    have hone : ∀ q ∈ ys.flatMap pc, q.oneCell' = true := by
      intro q hq
      obtain ⟨p, _, hp⟩ := List.mem_flatMap.1 hq
      exact one_pc p q hp
    obtain ⟨v', w', hr, g1, g2, g3⟩ := run_append_own (P := P) w base T ty e i (.agg zs) 2 bytes hT.out h1 h2 h3 h4 (by simp [Value.cells, hzn]) (by decide) v xs.length (xs.flatMap pc) hown2.2 a ys.length cap (ys.flatMap pc) (hpl ys) hcell (by simpa using hone) hml hlen.1 hbase
    refine W_run (w' := w') rfl rfl ?_ (K v' w' (by unfold OwnP; exact ⟨by simpa using hml, by simpa using g1⟩) (h0.of_grown g2 fun k hk => by have := hlt k hk; omega) ((Below.refl base w).grown g2 hbase fun k hk => (hlt k hk).1) g2)
    simp only [execOp, resolve, invoke, builtin, Sem.run_bind, Sem.run_pure, Result.andThen_ok, List.map_toArray, List.map_cons, List.map_nil, hx, hy, hr]
end
end Go.Pv
