/-
  What this text proves: several slices of the call's own at once, each in a block of its own: appending to one, storing into one. Over any program.
-/
import Derived.Test.YtlphfobpheefkaaR2
set_option linter.unusedVariables false
set_option linter.unusedSimpArgs false

namespace Go.Pv
open Go.RowKit
/-- Where the slice lies that an append gives: where it lay, or in a new block. -/
theorem append_block {P : Program} {w w' : World} {base : Nat} {t ty e : TypeId} {i : TypeInfo} {z : Value} {v v' : Value} {n m c : Nat} {xs news : List Value} {a : Addr} {size bytes : Nat} (ht : P.underlying t = some (.slice e)) (hi : P.info? e = some i) (hz : i.zero = some z) (hsize : i.size = size) (hby : i.bytes = bytes)
    (hown : w.ownsRow base e size v n xs) (hl : news.length = m * size) (hnews : ∀ j u, news[j]? = some u → w.cell? (a.add j) = some u) (h1 : ∀ u ∈ news, u.oneCell' = true) (hm : 0 < m)
    (h63 : n + m ≤ maxLen) (hbytes : (n + m) * bytes ≤ 140737488355328) (hr : (Builtin.append_ #[t, t] ty #[v, .slice (some a) m c]).run P w = .ok v' w') :
    v'.ownBlock = v.ownBlock ∨ v'.ownBlock = some w.heap.size := by
  subst hsize
  subst hby
  have hsmall : n + m ≤ 9223372036854775807 := by simp only [maxLen] at h63; omega
  rcases hown.2 with ⟨rfl, rfl⟩ | ⟨g, cap, cur, rfl, hbg, hg, hnc, hcm, hcs, htake⟩
  · have hb := hbytes
    simp only [Nat.zero_add] at hb
    have hr2 := run_append_nil (P := P) w t ty e i z ht hi hz a m c news hl hnews hm (by omega) (by omega)
    rw [hr] at hr2
    cases hr2
    exact .inr rfl
  · by_cases hroom : n + m ≤ cap
    · have hfit : n * i.size + news.length ≤ cur.size := by rw [hl, hcs, ← Nat.add_mul]; exact Nat.mul_le_mul_right _ hroom
      have hr2 := run_append_room (P := P) w t ty e i ht hi g n cap cur hg a m c news hl hnews h1 hroom hfit
      rw [hr] at hr2
      cases hr2
      exact .inl rfl
    · have hr2 := run_append_grow (P := P) w t ty e i z ht hi hz ⟨g, 0, none⟩ n cap xs hown.1 (hown.cells (g := g) rfl) a m c news hl hnews (by omega) (by omega) (growslice_fits (by omega) hbytes)
      rw [hr] at hr2
      cases hr2
      exact .inr rfl
theorem OwnV.lt {E : TypeId} {base : Nat} {w : World} {v : Value} {xs : List Value} (h : OwnV E base w v xs) : ∀ k, v.ownBlock = some k → base ≤ k ∧ k < w.heap.size := by
  unfold OwnV at h; exact h.2.lt
section
variable {P : Program} {Q : Exit → Act → World → Prop} {ol rest : List Oper} {l : St} {w : World} {ty : TypeId} {pos : String} {af : Array Edge}
theorem W_appendF {d : Nat} {x y : Operand} {T e : TypeId} {bytes base b c : Nat} {v z : Value} {xs : List Value} {m : Value} {w0 : World} [hT : Und P T (.slice e)] [hz : Sz P e z 1 bytes] (hzc : z.cells.size = 1) (hm : m.oneCell' = true)
    (hx : ev l x = v) (hown : OwnV e base w v xs) (hy : ev l y = .slice (some ⟨b, 0, none⟩) 1 c) (hb : Bx w b [m] e) (hlen : (xs.length + 1) * bytes ≤ 140737488355328 ∧ xs.length + 1 ≤ 1000000) (h0 : Ex w0 w) (hb0 : w0.heap.size ≤ base) (hbase : base ≤ w.heap.size)
    (K : ∀ v' w', OwnV e base w' v' (xs ++ [m]) → Ex w0 w' → Below base w w' → w.grownBy w' v.ownBlock → (v'.ownBlock = v.ownBlock ∨ v'.ownBlock = some w.heap.size) → W P ol Q rest (upd l d v') w') :
    W P ol Q (⟨some d, .call { callee := .builtin .append, args := #[x, y], argTypes := #[T, T] }, ty, pos, af, none⟩ :: rest) l w := by
  obtain ⟨i, h1, h2, h3, h4⟩ := hz.parts
  have hlt := hown.lt
  have hml : xs.length + 1 ≤ maxLen := by unfold maxLen; omega
  unfold OwnV at hown
  have hcell : ∀ j u, [m][j]? = some u → w.cell? ((⟨b, 0, none⟩ : Addr).add j) = some u := fun j u hj => by have := Bx.cells hb; unfold Cells at this; exact this j u hj
  obtain ⟨v', w', hr, g1, g2, g3⟩ := run_append_own (P := P) w base T ty e i z 1 bytes hT.out h1 h2 h3 h4 hzc (by decide) v xs.length xs hown.2 ⟨b, 0, none⟩ 1 c [m] (by simp) hcell (by simp [hm]) hml hlen.1 hbase
  have hbl := append_block (P := P) (w := w) hT.out h1 h2 h3 h4 hown.2 (by simp) hcell (by simp [hm]) (by decide) hml hlen.1 hr
  refine W_run (w' := w') rfl rfl ?_ (K v' w' (by unfold OwnV; exact ⟨by simpa using hml, by simpa using g1⟩) (h0.of_grown g2 fun k hk => by have := hlt k hk; omega) ((Below.refl base w).grown g2 hbase fun k hk => (hlt k hk).1) g2 hbl)
  simp only [execOp, resolve, invoke, builtin, Sem.run_bind, Sem.run_pure, Result.andThen_ok, List.map_toArray, List.map_cons, List.map_nil, hx, hy, hr]
/-- A store into a cell of an own slice. -/
theorem W_storeF {i cap g : Nat} {base : Nat} {e T : TypeId} {x y : Operand} {n : Nat} {xs : List Value} {u z : Value} {bytes : Nat} {w0 : World} [hz : Sz P T z 1 bytes] (h0 : Ex w0 w) (hb0 : w0.heap.size ≤ base) (hbase : base ≤ w.heap.size) (hx : ev l x = .pointer (some ⟨g, i, none⟩)) (hown : OwnV e base w (.slice (some ⟨g, 0, none⟩) n cap) xs) (hi : i < xs.length) (hy : ev l y = u) (hu : u.oneCell' = true)
    (K : ∀ w', OwnV e base w' (.slice (some ⟨g, 0, none⟩) n cap) (xs.set i u) → Ex w0 w' → Below base w w' → w.grownBy w' (some g) → W P ol Q rest l w') : W P ol Q (⟨none, .store T x y, ty, pos, af, none⟩ :: rest) l w := by
  have hlt := hown.lt g rfl
  unfold OwnV at hown
  have hn : n = xs.length := by
    rcases hown.2.2 with ⟨h, _⟩ | ⟨g', cap', cur, h, _⟩
    · cases h
    · cases h; rfl
  subst hn
  have hcell : w.cell? ⟨g, i, none⟩ = some xs[i] := by rw [hown.2.cellAt i (by omega)]; simp [hi]
  have hfr := hown.2.frozenAt i
  have hsz : u.cells = #[u] := cells_one hu
  have hst := hown.2.stored i u
  refine W_skp (w' := w.setCell ⟨g, i, none⟩ u) rfl rfl ?_ (K _ (by unfold OwnV; exact ⟨by simpa using hown.1, by simpa using hst.1⟩) (h0.of_grown hst.2 fun k hk => by cases hk; omega) ((Below.refl base w).grown hst.2 hbase fun k hk => by cases hk; omega) hst.2)
  have h1 := run_store P w ⟨g, i, none⟩ u .plain hu
  rw [hcell] at h1
  simp only [hfr] at h1
  simp [execOp, hx, hy, Instr.storeAt, Instr.sureAddr, storeVar, hsz, hz.run, storeCells, add_mk, h1]
end
/-- A slice of the call's own: the element's type, the slice, the cells. -/
abbrev Ent : Type := TypeId × Value × List Value
/-- Slices of the call's own, each in a block of its own. -/
def Fam (base : Nat) (w : World) (f : Nat → Ent) : Prop := (∀ i, OwnV (f i).1 base w (f i).2.1 (f i).2.2) ∧ ∀ i j k, i ≠ j → (f i).2.1.ownBlock = some k → (f j).2.1.ownBlock ≠ some k
theorem OwnV.keptB {E : TypeId} {base : Nat} {w w' : World} {v : Value} {xs : List Value} {row : Option Nat} (h : OwnV E base w v xs) (hg : w.grownBy w' row) (hne : v.ownBlock = none ∨ v.ownBlock ≠ row) : OwnV E base w' v xs := by
  unfold OwnV at h ⊢; exact ⟨h.1, h.2.kept hg hne⟩
theorem Fam.ex {base : Nat} {w w' : World} {f : Nat → Ent} (e : Ex w w') (h : Fam base w f) : Fam base w' f := ⟨fun i => (h.1 i).ex e, h.2⟩
theorem Fam.grownS {base b : Nat} {w w' : World} {f : Nat → Ent} (hg : w.grownBy w' (some b)) (hb : b < base) (h : Fam base w f) : Fam base w' f := ⟨fun i => (h.1 i).grownS hg hb, h.2⟩
theorem Fam.upd {base : Nat} {w w' : World} {f : Nat → Ent} (h : Fam base w f) (k : Nat) {E : TypeId} {v' : Value} {us : List Value} (hg : w.grownBy w' (f k).2.1.ownBlock) (hown : OwnV E base w' v' us)
    (hbl : v'.ownBlock = (f k).2.1.ownBlock ∨ v'.ownBlock = some w.heap.size) : Fam base w' (fun i => if i = k then (E, v', us) else f i) := by
  have key : ∀ j b, j ≠ k → v'.ownBlock = some b → (f j).2.1.ownBlock ≠ some b := by
    intro j b hj hv hf
    rcases hbl with e | e
    · exact h.2 k j b (Ne.symm hj) (e ▸ hv) hf
    · rw [e] at hv
      have := ((h.1 j).lt b hf).2
      simp at hv
      omega
  refine ⟨fun i => ?_, fun i j b hij hi hj => ?_⟩
  · by_cases e : i = k
    · simp only [e, if_true]; exact hown
    · simp only [e, if_false]
      refine (h.1 i).keptB hg ?_
      cases hb : (f i).2.1.ownBlock with
      | none => exact .inl rfl
      | some b => exact .inr fun e2 => h.2 i k b e hb e2.symm
  · by_cases e : i = k
    · have ej : j ≠ k := fun e2 => hij (e.trans e2.symm)
      simp only [e, if_true] at hi
      simp only [ej, if_false] at hj
      exact key j b ej hi hj
    · simp only [e, if_false] at hi
      by_cases ej : j = k
      · simp only [ej, if_true] at hj
        exact key i b e hj hi
      · simp only [ej, if_false] at hj
        exact h.2 i j b hij hi hj
def setF {α : Type} (f : Nat → α) (c : Nat) (a : α) : Nat → α := fun j => if j = c then a else f j
/-- Two slices of slices, a slice of numbers, and the inner slices. -/
def mkE (T1 T2 : TypeId) (x : Value) (xs : List Value) (r : Value) (rs : List Value) (o : Value) (O : List Int) (cv : Nat → Value) (C : Nat → List Int) (rv : Nat → Value) (R : Nat → List Int) : Nat → Ent
  | 0 => (T1, x, xs)
  | 1 => (T1, r, rs)
  | 2 => (T2, o, O.map (Value.int .i64))
  | i + 3 => if i % 2 = 0 then (T2, cv (i / 2), (C (i / 2)).map (Value.int .i64)) else (T2, rv (i / 2), (R (i / 2)).map (Value.int .i64))
section
variable {T1 T2 : TypeId} {x : Value} {xs : List Value} {r : Value} {rs : List Value} {o : Value} {O : List Int} {cv : Nat → Value} {C : Nat → List Int} {rv : Nat → Value} {R : Nat → List Int} {base : Nat} {w w' : World} {v' : Value} {us : List Value} {L : List Int}
theorem mkE_c (c : Nat) : mkE T1 T2 x xs r rs o O cv C rv R (2 * c + 3) = (T2, cv c, (C c).map (Value.int .i64)) := by
  simp only [mkE]
  rw [if_pos (by omega), show 2 * c / 2 = c by omega]
theorem mkE_r (c : Nat) : mkE T1 T2 x xs r rs o O cv C rv R (2 * c + 1 + 3) = (T2, rv c, (R c).map (Value.int .i64)) := by
  simp only [mkE]
  rw [if_neg (by omega), show (2 * c + 1) / 2 = c by omega]
theorem Fam.xOwn (h : Fam base w (mkE T1 T2 x xs r rs o O cv C rv R)) : OwnV T1 base w x xs := h.1 0
theorem Fam.rOwn0 (h : Fam base w (mkE T1 T2 x xs r rs o O cv C rv R)) : OwnV T1 base w r rs := h.1 1
theorem Fam.oOwn (h : Fam base w (mkE T1 T2 x xs r rs o O cv C rv R)) : OwnV T2 base w o (O.map (Value.int .i64)) := h.1 2
theorem Fam.sepXC (h : Fam base w (mkE T1 T2 x xs r rs o O cv C rv R)) (c g : Nat) (hx : x.ownBlock = some g) : some g ∉ [(cv c).ownBlock, (rv c).ownBlock] := by
  have h1 := h.2 0 (2 * c + 3) g (by omega) hx
  have h2 := h.2 0 (2 * c + 1 + 3) g (by omega) hx
  rw [mkE_c] at h1
  rw [mkE_r] at h2
  simp only [List.mem_cons, List.not_mem_nil, or_false, not_or]
  exact ⟨fun e => h1 e.symm, fun e => h2 e.symm⟩
theorem Fam.sepRC (h : Fam base w (mkE T1 T2 x xs r rs o O cv C rv R)) (c g : Nat) (hx : r.ownBlock = some g) : some g ∉ [(cv c).ownBlock, (rv c).ownBlock] := by
  have h1 := h.2 1 (2 * c + 3) g (by omega) hx
  have h2 := h.2 1 (2 * c + 1 + 3) g (by omega) hx
  rw [mkE_c] at h1
  rw [mkE_r] at h2
  simp only [List.mem_cons, List.not_mem_nil, or_false, not_or]
  exact ⟨fun e => h1 e.symm, fun e => h2 e.symm⟩
theorem Fam.sepBC (h : Fam base w (mkE T1 T2 x xs r rs o O cv C rv R)) (c g : Nat) (hg : g < base) : some g ∉ [(cv c).ownBlock, (rv c).ownBlock] := by
  have h1 := (h.1 (2 * c + 3)).lt g
  have h2 := (h.1 (2 * c + 1 + 3)).lt g
  rw [mkE_c] at h1
  rw [mkE_r] at h2
  simp only [List.mem_cons, List.not_mem_nil, or_false, not_or]
  exact ⟨fun e => by have := (h1 e.symm).1; omega, fun e => by have := (h2 e.symm).1; omega⟩
theorem Fam.box {b : Nat} {a : Value} {T : TypeId} (_ : Fam base w (mkE T1 T2 x xs r rs o O cv C rv R)) (hb : Bx w b [a, x] T) : Bx w b [a, x] T := hb
theorem Bx.keptRow {b : Nat} {c : List Value} {T : TypeId} {row : Option Nat} (h : Bx w b c T) (hg : w.grownBy w' row) (hne : row ≠ some b) : Bx w' b c T := by
  have hl := h.lt
  unfold Bx at h ⊢
  rw [hg.block b hl fun e => hne e.symm]; exact h
theorem Fam.cOwn (h : Fam base w (mkE T1 T2 x xs r rs o O cv C rv R)) (c : Nat) : OwnV T2 base w (cv c) ((C c).map (Value.int .i64)) := by
  have := h.1 (2 * c + 3); rw [mkE_c] at this; exact this
theorem Fam.rOwn (h : Fam base w (mkE T1 T2 x xs r rs o O cv C rv R)) (c : Nat) : OwnV T2 base w (rv c) ((R c).map (Value.int .i64)) := by
  have := h.1 (2 * c + 1 + 3); rw [mkE_r] at this; exact this
theorem Fam.updX (h : Fam base w (mkE T1 T2 x xs r rs o O cv C rv R)) (hg : w.grownBy w' x.ownBlock) (hown : OwnV T1 base w' v' us) (hbl : v'.ownBlock = x.ownBlock ∨ v'.ownBlock = some w.heap.size) : Fam base w' (mkE T1 T2 v' us r rs o O cv C rv R) := by
  have := Fam.upd h 0 hg hown hbl
  rw [show (fun i => if i = 0 then (T1, v', us) else mkE T1 T2 x xs r rs o O cv C rv R i) = mkE T1 T2 v' us r rs o O cv C rv R from funext fun i => by
    match i with
    | 0 => rfl
    | 1 => rfl
    | 2 => rfl
    | i + 3 => rfl] at this
  exact this
theorem Fam.updR (h : Fam base w (mkE T1 T2 x xs r rs o O cv C rv R)) (hg : w.grownBy w' r.ownBlock) (hown : OwnV T1 base w' v' us) (hbl : v'.ownBlock = r.ownBlock ∨ v'.ownBlock = some w.heap.size) : Fam base w' (mkE T1 T2 x xs v' us o O cv C rv R) := by
  have := Fam.upd h 1 hg hown hbl
  rw [show (fun i => if i = 1 then (T1, v', us) else mkE T1 T2 x xs r rs o O cv C rv R i) = mkE T1 T2 x xs v' us o O cv C rv R from funext fun i => by
    match i with
    | 0 => rfl
    | 1 => rfl
    | 2 => rfl
    | i + 3 => rfl] at this
  exact this
theorem Fam.updO (h : Fam base w (mkE T1 T2 x xs r rs o O cv C rv R)) (hg : w.grownBy w' o.ownBlock) (hown : OwnV T2 base w' v' (L.map (Value.int .i64))) (hbl : v'.ownBlock = o.ownBlock ∨ v'.ownBlock = some w.heap.size) : Fam base w' (mkE T1 T2 x xs r rs v' L cv C rv R) := by
  have := Fam.upd h 2 hg hown hbl
  rw [show (fun i => if i = 2 then (T2, v', L.map (Value.int .i64)) else mkE T1 T2 x xs r rs o O cv C rv R i) = mkE T1 T2 x xs r rs v' L cv C rv R from funext fun i => by
    match i with
    | 0 => rfl
    | 1 => rfl
    | 2 => rfl
    | i + 3 => rfl] at this
  exact this
theorem Fam.updC (h : Fam base w (mkE T1 T2 x xs r rs o O cv C rv R)) (c : Nat) (hg : w.grownBy w' (cv c).ownBlock) (hown : OwnV T2 base w' v' (L.map (Value.int .i64))) (hbl : v'.ownBlock = (cv c).ownBlock ∨ v'.ownBlock = some w.heap.size) : Fam base w' (mkE T1 T2 x xs r rs o O (setF cv c v') (setF C c L) rv R) := by
  have := Fam.upd h (2 * c + 3) (by rw [mkE_c]; exact hg) hown (by rw [mkE_c]; exact hbl)
  rw [show (fun i => if i = 2 * c + 3 then (T2, v', L.map (Value.int .i64)) else mkE T1 T2 x xs r rs o O cv C rv R i) = mkE T1 T2 x xs r rs o O (setF cv c v') (setF C c L) rv R from funext fun i => by
    match i with
    | 0 => simp [mkE]
    | 1 => simp [mkE]
    | 2 => simp [mkE]
    | i + 3 =>
      simp only [mkE, setF]
      by_cases e : i = 2 * c
      · subst e
        rw [if_pos rfl, if_pos (by omega), show 2 * c / 2 = c by omega]
        simp
      · rw [if_neg (by omega)]
        by_cases e2 : i % 2 = 0
        · rw [if_pos e2, if_pos e2, if_neg (by omega), if_neg (by omega)]
        · rw [if_neg e2, if_neg e2]] at this
  exact this
theorem Fam.updRR (h : Fam base w (mkE T1 T2 x xs r rs o O cv C rv R)) (c : Nat) (hg : w.grownBy w' (rv c).ownBlock) (hown : OwnV T2 base w' v' (L.map (Value.int .i64))) (hbl : v'.ownBlock = (rv c).ownBlock ∨ v'.ownBlock = some w.heap.size) : Fam base w' (mkE T1 T2 x xs r rs o O cv C (setF rv c v') (setF R c L)) := by
  have := Fam.upd h (2 * c + 1 + 3) (by rw [mkE_r]; exact hg) hown (by rw [mkE_r]; exact hbl)
  rw [show (fun i => if i = 2 * c + 1 + 3 then (T2, v', L.map (Value.int .i64)) else mkE T1 T2 x xs r rs o O cv C rv R i) = mkE T1 T2 x xs r rs o O cv C (setF rv c v') (setF R c L) from funext fun i => by
    match i with
    | 0 => simp [mkE]
    | 1 => simp [mkE]
    | 2 => simp [mkE]
    | i + 3 =>
      simp only [mkE, setF]
      by_cases e : i = 2 * c + 1
      · subst e
        rw [if_pos rfl, if_neg (by omega), show (2 * c + 1) / 2 = c by omega]
        simp
      · rw [if_neg (by omega)]
        by_cases e2 : i % 2 = 0
        · rw [if_pos e2, if_pos e2]
        · rw [if_neg e2, if_neg e2, if_neg (by omega), if_neg (by omega)]] at this
  exact this
theorem Fam.nil (base : Nat) (w : World) : Fam base w (mkE T1 T2 (.slice none 0 0) [] (.slice none 0 0) [] (.slice none 0 0) [] (fun _ => .slice none 0 0) (fun _ => []) (fun _ => .slice none 0 0) (fun _ => [])) := by
  refine ⟨fun i => ?_, fun i j k _ h => ?_⟩
  · match i with
    | 0 => exact OwnV.nil _ _ _
    | 1 => exact OwnV.nil _ _ _
    | 2 => exact OwnV.nil _ _ _
    | i + 3 => simp only [mkE]; split <;> exact OwnV.nil _ _ _
  · match i with
    | 0 => cases h
    | 1 => cases h
    | 2 => cases h
    | i + 3 => simp only [mkE] at h; split at h <;> cases h
end
end Go.Pv
