/-
  What this text proves: laws for an empty slice that is built, for appending a whole slice, and for regions in which three operations may come next. Over any program.
-/
import Derived.Test.YtlphfobpheefkaaFam
import Derived.Test.YtlphfobpheefkaaY
import Derived.Test.YtlphfobpheefkaaZ
set_option linter.unusedVariables false
set_option linter.unusedSimpArgs false

namespace Go.Pv
open Go.RowKit
section
variable {P : Program} {Q : Exit → Act → World → Prop} {ol rest : List Oper} {l : St} {w : World} {ty : TypeId} {pos : String} {af : Array Edge}
theorem W_bs0 {d n b : Nat} {T e : TypeId} {z : Value} [hT : Und P T (.slice e)] [hz : Sz P e z n b]
    (K : ∀ b w', OwnV e w.heap.size w' (.slice (some ⟨b, 0, none⟩) 0 0) [] → Ex w w' → b = w.heap.size → W P ol Q rest (upd l d (.slice (some ⟨b, 0, none⟩) 0 0)) w') : W P ol Q (⟨some d, .buildSlice T 0 #[], ty, pos, af, none⟩ :: rest) l w := by
  refine W_run (w' := w.alloc (.cells #[] e)) rfl rfl ?_ (K w.heap.size _ ?_ (Ex.alloc _ _) rfl)
  · simp [execOp, Instr.buildSlice, hT.run, hz.run, Instr.fill, newRow]
    have h0 : (Array.range 0).map (fun _ => (default : Value)) = #[] := by apply Array.ext <;> simp
    exact congrArg (fun c => w.alloc (Obj.cells c e)) h0
  · unfold OwnV
    exact ⟨Nat.zero_le _, by simp, .inr ⟨w.heap.size, 0, #[], rfl, Nat.le_refl _, by have h1 := Bx.new w [] e; unfold Bx at h1; simpa using h1, Nat.le_refl _, Nat.zero_le _, rfl, rfl⟩⟩
theorem W_appendVs {d : Nat} {x y : Operand} {T e : TypeId} {bytes base : Nat} {v u z : Value} {xs ys : List Value} {w0 : World} [hT : Und P T (.slice e)] [hz : Sz P e z 1 bytes] (hzc : z.cells.size = 1)
    (hx : ev l x = v) (hown : OwnV e base w v xs) (hy : ev l y = u) (hu : Vals w u ys) (h1' : ∀ q ∈ ys, q.oneCell' = true) (hpos : 0 < ys.length) (hlen : (xs.length + ys.length) * bytes ≤ 140737488355328 ∧ xs.length + ys.length ≤ 1000000) (h0 : Ex w0 w) (hb0 : w0.heap.size ≤ base) (hbase : base ≤ w.heap.size)
    (K : ∀ v' w', OwnV e base w' v' (xs ++ ys) → Ex w0 w' → Below base w w' → w.grownBy w' v.ownBlock → (v'.ownBlock = v.ownBlock ∨ v'.ownBlock = some w.heap.size) → W P ol Q rest (upd l d v') w') :
    W P ol Q (⟨some d, .call { callee := .builtin .append, args := #[x, y], argTypes := #[T, T] }, ty, pos, af, none⟩ :: rest) l w := by
  obtain ⟨i, h1, h2, h3, h4⟩ := hz.parts
  have hlt := hown.lt
  have hml : xs.length + ys.length ≤ maxLen := by unfold maxLen; omega
  unfold OwnV at hown
  unfold Vals Sl at hu
  obtain ⟨_, oa, cap, rfl, hc, hm, hall⟩ := hu
  obtain ⟨a, q0, rfl, -, -⟩ := hall 0 hpos
  have hcell : ∀ j q, ys[j]? = some q → w.cell? (a.add j) = some q := by
    intro j q hj
    have hj' : j < ys.length := by
      rcases Nat.lt_or_ge j ys.length with h | h
      · exact h
      · rw [List.getElem?_eq_none h] at hj; cases hj
    obtain ⟨p, q1, hp, hq1, hq2⟩ := hall j hj'
    cases hp
    rw [List.getElem?_eq_getElem hj'] at hj
    cases hj
    rw [hq1, hq2]
  obtain ⟨v', w', hr, g1, g2, g3⟩ := run_append_own (P := P) w base T ty e i z 1 bytes hT.out h1 h2 h3 h4 hzc (by decide) v xs.length xs hown.2 a ys.length cap ys (by simp) hcell h1' hml hlen.1 hbase
  have hbl := append_block (P := P) (w := w) hT.out h1 h2 h3 h4 hown.2 (by simp) hcell h1' hpos hml hlen.1 hr
  refine W_run (w' := w') rfl rfl ?_ (K v' w' (by unfold OwnV; exact ⟨by simpa using hml, by simpa using g1⟩) (h0.of_grown g2 fun k hk => by have := hlt k hk; omega) ((Below.refl base w).grown g2 hbase fun k hk => (hlt k hk).1) g2 hbl)
  simp only [execOp, resolve, invoke, builtin, Sem.run_bind, Sem.run_pure, Result.andThen_ok, List.map_toArray, List.map_cons, List.map_nil, hx, hy, hr]
theorem Ints.vals {v : Value} {zs : List Int} (h : Ints w v zs) : Vals w v (zs.map (Value.int .i64)) := by
  change IntsK .i64 w v zs at h
  unfold IntsK Sl at h
  unfold Vals Sl
  obtain ⟨h0, a, cap, rfl, h1, h2, h3⟩ := h
  refine ⟨by simpa using h0, a, cap, by simp, by simpa using h1, h2, fun i hi => ?_⟩
  have hi' : i < zs.length := by simpa using hi
  obtain ⟨p, q, e1, e2, e3⟩ := h3 i hi'
  unfold IntR at e3
  exact ⟨p, q, e1, e2, by rw [e3]; simp⟩
theorem XT_three {qs qb : List Nat} {Q : Act → World → Prop} {n t t' t'' : Nat} {s s' s'' : Bool} {o o' o'' : Oper} {listed l1 l1' l1'' : Array Bool} (hr : Region.ready .any ol.toArray listed = [t, t', t'']) (ho : ol[t]? = some o) (ho' : ol[t']? = some o') (ho'' : ol[t'']? = some o'') (hs : flg ol.toArray qs qb t = s) (hs' : flg ol.toArray qs qb t' = s') (hs'' : flg ol.toArray qs qb t'' = s'')
    (hl : listed.setIfInBounds t true = l1) (hl' : listed.setIfInBounds t' true = l1') (hl'' : listed.setIfInBounds t'' true = l1'')
    (h : W P ol (QT s w (anyX P ol.toArray qs qb Q n l1)) [o] l w) (h' : W P ol (QT s' w (anyX P ol.toArray qs qb Q n l1')) [o'] l w) (h'' : W P ol (QT s'' w (anyX P ol.toArray qs qb Q n l1'')) [o''] l w) : XT P ol qs qb Q (n + 1) listed l w := by
  subst hs; subst hl; subst hs'; subst hl'; subst hs''; subst hl''
  unfold W at h h' h''
  unfold XT
  refine ⟨fun h0 => (by rw [hr] at h0; cases h0), fun i hi => ?_⟩
  rw [hr] at hi
  have : i = t ∨ i = t' ∨ i = t'' := by simpa using hi
  rcases this with rfl | rfl | rfl
  · unfold wpOp
    simp only [List.getElem?_toArray, ho]
    exact h
  · unfold wpOp
    simp only [List.getElem?_toArray, ho']
    exact h'
  · unfold wpOp
    simp only [List.getElem?_toArray, ho'']
    exact h''
theorem Ex.ofN {a b : World} (h : Below a.heap.size a b) : Ex a b := by unfold Ex; exact h
theorem keepN (N : Nat) : Keeps (Below N) where
  refl := fun w => Below.refl N w
  trans := fun h k => Below.trans h k
  drew := fun w => (Below.refl N w).drew
variable {ρ : World → World → Prop}
theorem XTR_three {qs : List Nat} {Q : Act → World → Prop} {n t t' t'' : Nat} {s s' s'' : Bool} {o o' o'' : Oper} {listed l1 l1' l1'' : Array Bool} (hr : Region.ready .any ol.toArray listed = [t, t', t'']) (ho : ol[t]? = some o) (ho' : ol[t']? = some o') (ho'' : ol[t'']? = some o'') (hs : sinkT ol.toArray qs t = s) (hs' : sinkT ol.toArray qs t' = s') (hs'' : sinkT ol.toArray qs t'' = s'')
    (hl : listed.setIfInBounds t true = l1) (hl' : listed.setIfInBounds t' true = l1') (hl'' : listed.setIfInBounds t'' true = l1'')
    (h : W P ol (QTR ρ s w (anyXR ρ P ol.toArray qs Q n l1)) [o] l w) (h' : W P ol (QTR ρ s' w (anyXR ρ P ol.toArray qs Q n l1')) [o'] l w) (h'' : W P ol (QTR ρ s'' w (anyXR ρ P ol.toArray qs Q n l1'')) [o''] l w) : XTR ρ P ol qs Q (n + 1) listed l w := by
  subst hs; subst hl; subst hs'; subst hl'; subst hs''; subst hl''
  unfold W at h h' h''
  unfold XTR
  refine ⟨fun h0 => (by rw [hr] at h0; cases h0), fun i hi => ?_⟩
  rw [hr] at hi
  have : i = t ∨ i = t' ∨ i = t'' := by simpa using hi
  rcases this with rfl | rfl | rfl
  · unfold wpOp
    simp only [List.getElem?_toArray, ho]
    exact h
  · unfold wpOp
    simp only [List.getElem?_toArray, ho']
    exact h'
  · unfold wpOp
    simp only [List.getElem?_toArray, ho'']
    exact h''
end
end Go.Pv
