/-
  (heavy) (rows) What this text proves: plants by numbers are as the plain function says. Conditions: the values read as lists.
-/
import Derived.Test.YtlphfobpheefkaaVBi
set_option linter.unusedVariables false
set_option linter.unusedSimpArgs false
namespace Go.Pv
open Go.RowKit Go.Sort
theorem OwnV.one1 {E : TypeId} {base b : Nat} {w : World} {m : Value} (h : Bx w b [m] E) (hb : base ≤ b) : OwnV E base w (.slice (some ⟨b, 0, none⟩) 1 1) [m] := by
  unfold OwnV
  unfold Bx at h
  exact ⟨(by unfold maxLen; simp), by simp, .inr ⟨b, 1, _, rfl, hb, h, Nat.le_refl _, by decide, rfl, rfl⟩⟩
theorem OwnV.low {E : TypeId} {base base' : Nat} {w : World} {v : Value} {xs : List Value} (h : OwnV E base w v xs) (hb : base' ≤ base) : OwnV E base' w v xs := by
  unfold OwnV at h ⊢
  refine ⟨h.1, h.2.1, ?_⟩
  rcases h.2.2 with h2 | ⟨g, cap, cur, h1, h2, h3⟩
  · exact .inl h2
  · exact .inr ⟨g, cap, cur, h1, by omega, h3⟩
theorem OwnP.low {E : TypeId} {base base' : Nat} {w : World} {v : Value} {xs : List (Int × Int)} (h : OwnP E base w v xs) (hb : base' ≤ base) : OwnP E base' w v xs := by
  unfold OwnP at h ⊢
  refine ⟨h.1, h.2.1, ?_⟩
  rcases h.2.2 with h2 | ⟨g, cap, cur, h1, h2, h3⟩
  · exact .inl h2
  · exact .inr ⟨g, cap, cur, h1, by omega, h3⟩
/-- A list of lists of bounds that is the call's own, and so are they. -/
def EngV (T E : TypeId) (base : Nat) (w : World) (v : Value) (us : List Value) (xs : List (List (Int × Int))) : Prop := OwnV T base w v us ∧ us.length = xs.length ∧ ∀ i, i < us.length → OwnP E base w (us.getD i undef) (xs.getD i [])
/-- One or two. -/
def oneTwo (d : Bool) (a b : List (Int × Int)) : List (List (Int × Int)) := if d then [a, b] else [a]
theorem EngV.vals {T E : TypeId} {base : Nat} {w : World} {v : Value} {us : List Value} {xs : List (List (Int × Int))} (h : EngV T E base w v us xs) : Vals w v us ∧ BLs w us xs := ⟨h.1.vals, h.2.1, fun i hi => (h.2.2 i hi).prs⟩
theorem OwnP.lt2 {E : TypeId} {base : Nat} {w : World} {v : Value} {xs : List (Int × Int)} (h : OwnP E base w v xs) : ∀ k, v.ownBlock = some k → base ≤ k ∧ k < w.heap.size := by unfold OwnP at h; exact h.2.lt
theorem OwnP.keptB {E : TypeId} {base : Nat} {w w' : World} {v : Value} {xs : List (Int × Int)} {row : Option Nat} (h : OwnP E base w v xs) (hg : w.grownBy w' row) (hne : v.ownBlock = none ∨ v.ownBlock ≠ row) : OwnP E base w' v xs := by
  unfold OwnP at h ⊢; exact ⟨h.1, h.2.kept hg hne⟩
theorem ne_row {o r : Option Nat} (h : ∀ k, o = some k → r ≠ some k) : o = none ∨ o ≠ r := by
  cases o with
  | none => exact .inl rfl
  | some k => exact .inr fun e => h k rfl e.symm
/-- No two of the blocks are the same: the box, the two lists, the lists in them. -/
def EngD (b3 : Nat) (pv rv : Value) (us vs : List Value) : Prop := (∀ k, pv.ownBlock = some k → k ≠ b3 ∧ rv.ownBlock ≠ some k) ∧ (∀ k, rv.ownBlock = some k → k ≠ b3 ∧ pv.ownBlock ≠ some k) ∧ (∀ i, i < us.length → ∀ k, (us.getD i undef).ownBlock = some k → k ≠ b3 ∧ pv.ownBlock ≠ some k ∧ rv.ownBlock ≠ some k) ∧ ∀ i, i < vs.length → ∀ k, (vs.getD i undef).ownBlock = some k → k ≠ b3 ∧ pv.ownBlock ≠ some k ∧ rv.ownBlock ≠ some k
/-- Two lists of lists of bounds, and the box with both. -/
def EngC (T E : TypeId) (base : Nat) (w : World) (b3 : Nat) (pv rv : Value) (us vs : List Value) (xs ys : List (List (Int × Int))) : Prop := EngV T E base w pv us xs ∧ EngV T E base w rv vs ys ∧ EngD b3 pv rv us vs
section
variable {T E : TypeId} {base b3 : Nat} {w w' : World} {pv rv vb v' : Value} {us vs : List Value} {xs ys : List (List (Int × Int))} {zs : List (Int × Int)}
theorem EngV.ex (e : Ex w w') (h : EngV T E base w pv us xs) : EngV T E base w' pv us xs := ⟨h.1.ex e, h.2.1, fun i hi => (h.2.2 i hi).ex e⟩
theorem EngC.ex (e : Ex w w') (h : EngC T E base w b3 pv rv us vs xs ys) : EngC T E base w' b3 pv rv us vs xs ys := ⟨h.1.ex e, h.2.1.ex e, h.2.2⟩
theorem EngC.symm (h : EngC T E base w b3 pv rv us vs xs ys) : EngC T E base w b3 rv pv vs us ys xs := by
  obtain ⟨h1, h2, d1, d2, d3, d4⟩ := h
  exact ⟨h2, h1, d2, d1, fun i hi k hk => ⟨(d4 i hi k hk).1, (d4 i hi k hk).2.2, (d4 i hi k hk).2.1⟩, fun i hi k hk => ⟨(d3 i hi k hk).1, (d3 i hi k hk).2.2, (d3 i hi k hk).2.1⟩⟩
theorem EngV.keptB {row : Option Nat} (h : EngV T E base w pv us xs) (hg : w.grownBy w' row) (h1 : ∀ k, pv.ownBlock = some k → row ≠ some k) (h2 : ∀ i, i < us.length → ∀ k, (us.getD i undef).ownBlock = some k → row ≠ some k) : EngV T E base w' pv us xs :=
  ⟨h.1.keptB hg (ne_row h1), h.2.1, fun i hi => (h.2.2 i hi).keptB hg (ne_row (h2 i hi))⟩
theorem getD_app {α : Type} {l : List α} {x d : α} {i : Nat} (h : i < l.length) : (l ++ [x]).getD i d = l.getD i d := by
  simp only [List.getD]; rw [List.getElem?_append_left h]
theorem getD_last {α : Type} {l : List α} {x d : α} : (l ++ [x]).getD l.length d = x := by
  simp [List.getD]
theorem EngC.step {w1 w2 w3 w4 : World} (h : EngC T E base w b3 pv rv us vs xs ys) (hb3 : b3 < w.heap.size) (hbs : base ≤ w.heap.size) (e1 : Ex w w1) (hb : OwnP E w.heap.size w1 vb zs) (e2 : Ex w1 w2) (hown : OwnV T base w3 v' (us ++ [vb])) (hg : w2.grownBy w3 pv.ownBlock)
    (hbl : v'.ownBlock = pv.ownBlock ∨ v'.ownBlock = some w2.heap.size) (hg4 : w3.grownBy w4 (some b3)) : EngC T E base w4 b3 v' rv (us ++ [vb]) vs (xs ++ [zs]) ys := by
  have s1 := e1.size
  have s2 := e2.size
  have lp := h.1.1.lt
  have lr := h.2.1.1.lt
  have lb := hb.lt2
  have lu := fun i hi => (h.1.2.2 i hi).lt2
  have lv := fun i hi => (h.2.1.2.2 i hi).lt2
  obtain ⟨h1, h2, d1, d2, d3, d4⟩ := h
  have vne : ∀ k, v'.ownBlock = some k → (pv.ownBlock = some k ∨ k = w2.heap.size) := fun k hk => by
    rcases hbl with e | e
    · exact .inl (e.symm.trans hk)
    · exact .inr (Option.some.inj (hk.symm.trans e))
  have vb3 : ∀ k, v'.ownBlock = some k → k ≠ b3 := fun k hk => by
    rcases vne k hk with e | e
    · exact (d1 k e).1
    · omega
  have us1 : ∀ i, i < us.length → ∀ k, (us.getD i undef).ownBlock = some k → v'.ownBlock ≠ some k := fun i hi k hk e => by
    have := (lu i hi k hk).2
    rcases vne k e with f | f
    · exact (d3 i hi k hk).2.1 f
    · omega
  have vs1 : ∀ i, i < vs.length → ∀ k, (vs.getD i undef).ownBlock = some k → v'.ownBlock ≠ some k := fun i hi k hk e => by
    have := (lv i hi k hk).2
    rcases vne k e with f | f
    · exact (d4 i hi k hk).2.1 f
    · omega
  have vb1 : ∀ k, vb.ownBlock = some k → k ≠ b3 ∧ pv.ownBlock ≠ some k ∧ v'.ownBlock ≠ some k ∧ rv.ownBlock ≠ some k := fun k hk => by
    have kk := lb k hk
    refine ⟨by omega, fun e => ?_, fun e => ?_, fun e => ?_⟩
    · have := lp k e; omega
    · rcases vne k e with f | f
      · have := lp k f; omega
      · omega
    · have := lr k e; omega
  have ne3 : ∀ k, k ≠ b3 → some b3 ≠ some k := fun k hk e => hk (Option.some.inj e).symm
  refine ⟨⟨hown.keptB hg4 (ne_row fun k hk => ne3 k (vb3 k hk)), by simp [h1.2.1], fun i hi => ?_⟩, ?_, ?_⟩
  · by_cases hi2 : i < us.length
    · rw [getD_app hi2, getD_app (by rw [← h1.2.1]; exact hi2)]
      exact ((((h1.2.2 i hi2).ex e1).ex e2).keptB hg (ne_row fun k hk => (d3 i hi2 k hk).2.1)).keptB hg4 (ne_row fun k hk => ne3 k (d3 i hi2 k hk).1)
    · have hi3 : i = us.length := by simp at hi; omega
      subst hi3
      rw [getD_last, h1.2.1, getD_last]
      refine OwnP.low ?_ hbs
      exact ((hb.ex e2).keptB hg (ne_row fun k hk => (vb1 k hk).2.1)).keptB hg4 (ne_row fun k hk => ne3 k (vb1 k hk).1)
  · exact (((h2.ex e1).ex e2).keptB hg (fun k hk => (d2 k hk).2) (fun i hi k hk => (d4 i hi k hk).2.1)).keptB hg4 (fun k hk => ne3 k (d2 k hk).1) (fun i hi k hk => ne3 k (d4 i hi k hk).1)
  · refine ⟨fun k hk => ⟨vb3 k hk, fun e => ?_⟩, fun k hk => ⟨(d2 k hk).1, fun e => ?_⟩, fun i hi k hk => ?_, fun i hi k hk => ⟨(d4 i hi k hk).1, vs1 i hi k hk, (d4 i hi k hk).2.2⟩⟩
    · rcases vne k hk with f | f
      · exact (d1 k f).2 e
      · have := lr k e; omega
    · rcases vne k e with f | f
      · exact (d2 k hk).2 f
      · have := lr k hk; omega
    · by_cases hi2 : i < us.length
      · rw [getD_app hi2] at hk
        exact ⟨(d3 i hi2 k hk).1, us1 i hi2 k hk, (d3 i hi2 k hk).2.2⟩
      · have hi3 : i = us.length := by simp at hi; omega
        subst hi3
        rw [getD_last] at hk
        exact ⟨(vb1 k hk).1, (vb1 k hk).2.2.1, (vb1 k hk).2.2.2⟩
theorem EngV.fin {w1 w2 : World} {b base' : Nat} (h : EngV T E base w pv us xs) (e : Ex w w1) (hg : w1.grownBy w2 (some b)) (hb : b < base) (hl : base' ≤ base) : EngV T E base' w2 pv us xs := by
  have k := (h.ex e).keptB hg (fun k hk f => by have := Option.some.inj f; have := (h.1.lt k hk).1; omega) (fun i hi k hk f => by have := Option.some.inj f; have := ((h.2.2 i hi).lt2 k hk).1; omega)
  exact ⟨k.1.low hl, k.2.1, fun i hi => (k.2.2 i hi).low hl⟩
/-- The first of each. -/
theorem EngC.first {b2 b4 : Nat} {a c : Value} {A B : List (Int × Int)} (h2 : Bx w b2 [a] T) (h4 : Bx w b4 [c] T) (ha : OwnP E base w a A) (hc : OwnP E base w c B) (l2 : base ≤ b2) (l4 : base ≤ b4) (n23 : b2 ≠ b3) (n43 : b4 ≠ b3) (n24 : b2 ≠ b4) (ka : ∀ k, a.ownBlock = some k → k ≠ b3 ∧ k ≠ b2 ∧ k ≠ b4) (kc : ∀ k, c.ownBlock = some k → k ≠ b3 ∧ k ≠ b2 ∧ k ≠ b4) :
    EngC T E base w b3 (.slice (some ⟨b2, 0, none⟩) 1 1) (.slice (some ⟨b4, 0, none⟩) 1 1) [a] [c] [A] [B] := by
  have one : ∀ {x : Value} {X : List (Int × Int)}, OwnP E base w x X → ∀ i, i < [x].length → OwnP E base w ([x].getD i undef) ([X].getD i []) := fun h i hi => by
    have : i = 0 := by simp at hi; omega
    subst this; exact h
  have o2 : (Value.slice (some ⟨b2, 0, none⟩) 1 1).ownBlock = some b2 := rfl
  have o4 : (Value.slice (some ⟨b4, 0, none⟩) 1 1).ownBlock = some b4 := rfl
  refine ⟨⟨OwnV.one1 h2 l2, rfl, one ha⟩, ⟨OwnV.one1 h4 l4, rfl, one hc⟩, fun k hk => ?_, fun k hk => ?_, fun i hi k hk => ?_, fun i hi k hk => ?_⟩
  · rw [o2] at hk; rw [o4]; have := Option.some.inj hk; exact ⟨by omega, fun e => by have := Option.some.inj e; omega⟩
  · rw [o4] at hk; rw [o2]; have := Option.some.inj hk; exact ⟨by omega, fun e => by have := Option.some.inj e; omega⟩
  · have hi0 : i = 0 := by simp at hi; omega
    subst hi0
    have := ka k hk
    rw [o2, o4]
    exact ⟨this.1, fun e => by have := Option.some.inj e; omega, fun e => by have := Option.some.inj e; omega⟩
  · have hi0 : i = 0 := by simp at hi; omega
    subst hi0
    have := kc k hk
    rw [o2, o4]
    exact ⟨this.1, fun e => by have := Option.some.inj e; omega, fun e => by have := Option.some.inj e; omega⟩
end
end Go.Pv
namespace Go.Proofs.Ytlphfobpheefkaa
open Go.Pv Go.RowKit Go.Sort
set_option maxHeartbeats 8000000
set_option maxRecDepth 20000
def SetOk (hs : List (Int × Int)) : Prop := ∀ j, 0 ≤ (hs.getD j (0, 0)).1 ∧ (hs.getD j (0, 0)).1 ≤ 255 ∧ 0 ≤ (hs.getD j (0, 0)).2 ∧ (hs.getD j (0, 0)).2 ≤ 255
theorem emade_any (p0 p1 r0 r1 : Value) (P0 P1 R0 R1 : List (Int × Int)) (d0 d1 : Bool) (w : World) (h0 : Prs8 w p0 P0) (h1 : Prs8 w p1 P1) (h2 : Prs8 w r0 R0) (h3 : Prs8 w r1 R1) (o0 : SetOk P0) (o1 : SetOk P1) (o2 : SetOk R0) (o3 : SetOk R1) :
    Ret Try.prog 27 [.agg #[p0, p1, r0, r1, .bool d0, .bool d1]] w fun r w' => ∃ pv rv us vs, r = .agg #[pv, rv] ∧ EngV 22 44 w.heap.size w' pv us (oneTwo d0 (setB P0) (setB P1)) ∧ EngV 22 44 w.heap.size w' rv vs (oneTwo d1 (setB R0) (setB R1)) := by
  have hv0 := h0.one
  have hv1 := h1.one
  have hv2 := h2.one
  have hv3 := h3.one
  have tkA : True := trivial
  have tkB : True := trivial
  have tkC : True := trivial
  refine ret_of_c Try.func27 rfl Try.ntmps27 (Nat.le_of_ble_eq_true rfl) (by dsimp only [ini, Nat.reduceAdd] <;> exact rfl) ?_
  repeat' (first
      | (clear tkA; (with_reducible apply W_box); exact rfl; exact rfl; intro bx wx hbx hex hnx; have hltx := Bx.lt hbx; have hsz := hex.size)
      | (clear tkB; (with_reducible apply W_alloc); exact rfl; intro by_ wl hby hey hny; have hlty := Bx.lt hby; have hsz := hey.size; (have hbx : Bx wl bx [p0, p1, r0, r1, .bool d0, .bool d1] 52 := Bx.ex hey hbx); (have hel : Ex w wl := Ex.trans hex hey))
      | (clear tkC; refine c_cutG (x := .region 1 _ _) (n := 40) (ds := []) (fun ps2 wr2 => ∃ (b2 b3 b4 : Nat) (a c : Value), ps2 = [(1, Value.pointer (some ⟨bx, 0, none⟩)), (2, .pointer (some ⟨by_, 0, none⟩)), (3, .pointer (some ⟨b3, 0, none⟩))] ∧ Bx wr2 b3 [.slice (some ⟨b2, 0, none⟩) 1 1, .slice (some ⟨b4, 0, none⟩) 1 1] 55 ∧ wl.heap.size ≤ b3 ∧ EngC 22 44 wl.heap.size wr2 b3 (.slice (some ⟨b2, 0, none⟩) 1 1) (.slice (some ⟨b4, 0, none⟩) 1 1) [a] [c] [setB P0] [setB R0] ∧ Ex wl wr2) (fun J0 hJ0 => ?_) (fun u2 ps2 wp hI2 => ?_); rotate_left 1; (obtain ⟨b2, b3, b4, a, c, rfl, hx3, hl3, hec, hep⟩ := hI2); (have hsz := hep.size); (have hlt3 := Bx.lt hx3); (have tkD : True := trivial); cases d0 <;> cases d1)
      | (refine W_call (made_any _ P0 _ (Prs8.ex (show Ex w _ from (by repeat (first | exact Ex.refl _ | assumption | (refine Ex.of_grown ?_ (by assumption) (by intro k hk; cases hk; omega)) | (refine Ex.trans ?_ (by assumption))))) h0) o0) rfl ?_; rintro va wa hoa hea; have hva1 := hoa.one; have hsz := hea.size; (have hka := hoa.lt2); (have hoa := hoa.low (base' := wl.heap.size) (by omega)))
      | (refine W_call (made_any _ R0 _ (Prs8.ex (show Ex w _ from (by repeat (first | exact Ex.refl _ | assumption | (refine Ex.of_grown ?_ (by assumption) (by intro k hk; cases hk; omega)) | (refine Ex.trans ?_ (by assumption))))) h2) o2) rfl ?_; rintro vc wc hoc hec; have hvc1 := hoc.one; have hsz := hec.size; (have hkc := hoc.lt2); (have hoc := hoc.low (base' := wl.heap.size) (by omega)))
      | ((with_reducible apply W_bs1); ((conv => lhs; whnf) <;> exact rfl); (first | exact rfl | assumption | exact IntsK.one (by assumption) | exact Prs.one (by assumption) | exact OwnP.one (by assumption) | exact Own.one (by assumption) | exact Row.one (by assumption) | exact OwnR.one (by assumption)); decide; decide; exact rfl; exact rfl; ((simp only [lay, lset, List.replicate_succ, List.replicate_zero]) <;> exact rfl); intro b2 wq hbq he hnq; have hltq := Bx.lt hbq; have hsz := he.size; have hx2 : Bx wq b2 [va] 22 := hbq)
      | ((with_reducible apply W_bs1); ((conv => lhs; whnf) <;> exact rfl); (first | exact rfl | assumption | exact IntsK.one (by assumption) | exact Prs.one (by assumption) | exact OwnP.one (by assumption) | exact Own.one (by assumption) | exact Row.one (by assumption) | exact OwnR.one (by assumption)); decide; decide; exact rfl; exact rfl; ((simp only [lay, lset, List.replicate_succ, List.replicate_zero]) <;> exact rfl); intro b4 wq hbq he hnq; have hltq := Bx.lt hbq; have hsz := he.size; have hx4 : Bx wq b4 [vc] 22 := hbq)
      | ((with_reducible apply W_alloc); exact rfl; intro b3 wq hbq he hnq; have hltq := Bx.lt hbq; have hsz := he.size; have hx3 : Bx wq b3 [.slice none 0 0, .slice none 0 0] 55 := hbq; have hl3 : wl.heap.size ≤ b3 := (by omega))
      | ((with_reducible apply W_storeA); exact rfl; exact (show Bx _ b3 [.slice none 0 0, .slice none 0 0] 55 from (by repeat (first | assumption | ((with_reducible apply Bx.grownS); assumption; (first | omega | exact Bx.ne (by assumption) (by omega))) | ((with_reducible apply Bx.below); assumption; omega) | ((with_reducible apply Bx.ex); assumption)))); exact rfl; exact rfl; exact rfl; (repeat' (first | exact trivial | exact rfl | assumption | constructor)); intro w9 hb9 hg9; have hsz := hg9.size; (have hoa := OwnP.keptB (OwnP.ex (show Ex wa _ from (by repeat (first | exact Ex.refl _ | assumption | (refine Ex.of_grown ?_ (by assumption) (by intro k hk; cases hk; omega)) | (refine Ex.trans ?_ (by assumption))))) hoa) hg9 (ne_row fun k hk e => by have := Option.some.inj e; have := hka k hk; omega)); (have hoc := OwnP.keptB (OwnP.ex (show Ex wc _ from (by repeat (first | exact Ex.refl _ | assumption | (refine Ex.of_grown ?_ (by assumption) (by intro k hk; cases hk; omega)) | (refine Ex.trans ?_ (by assumption))))) hoc) hg9 (ne_row fun k hk e => by have := Option.some.inj e; have := hkc k hk; omega)))
      | ((with_reducible (show Exit.then _ _ _ _ _)); refine n_cutG (hJ0 _ _ _ ⟨b2, b3, b4, va, vc, rfl, hb9, hl3, EngC.first (show Bx w9 b2 [va] 22 from (by repeat (first | assumption | ((with_reducible apply Bx.grownS); assumption; (first | omega | exact Bx.ne (by assumption) (by omega))) | ((with_reducible apply Bx.below); assumption; omega) | ((with_reducible apply Bx.ex); assumption)))) (show Bx w9 b4 [vc] 22 from (by repeat (first | assumption | ((with_reducible apply Bx.grownS); assumption; (first | omega | exact Bx.ne (by assumption) (by omega))) | ((with_reducible apply Bx.below); assumption; omega) | ((with_reducible apply Bx.ex); assumption)))) hoa hoc (by omega) (by omega) (by omega) (by omega) (by omega) (fun k hk => by have := hka k hk; omega) (fun k hk => by have := hkc k hk; omega), (show Ex wl w9 from (by repeat (first | exact Ex.refl _ | assumption | (refine Ex.of_grown ?_ (by assumption) (by intro k hk; cases hk; omega)) | (refine Ex.trans ?_ (by assumption)))))⟩ ⟨rfl, rfl, rfl, trivial⟩ rfl))
      | (have _ := tkD; refine W_call (made_any _ P1 _ (Prs8.ex (show Ex w _ from (by repeat (first | exact Ex.refl _ | assumption | (refine Ex.of_grown ?_ (by assumption) (by intro k hk; cases hk; omega)) | (refine Ex.trans ?_ (by assumption))))) h1) o1) rfl ?_; rintro vb wb hob heb; have hvb1 := hob.one; have hsz := heb.size)
      | (have _ := tkD; refine W_call (made_any _ R1 _ (Prs8.ex (show Ex w _ from (by repeat (first | exact Ex.refl _ | assumption | (refine Ex.of_grown ?_ (by assumption) (by intro k hk; cases hk; omega)) | (refine Ex.trans ?_ (by assumption))))) h3) o3) rfl ?_; rintro vb wb hob heb; have hvb1 := hob.one; have hsz := heb.size)
      | (have _ := tkD; (with_reducible apply W_bs1); ((conv => lhs; whnf) <;> exact rfl); (first | exact rfl | assumption | exact IntsK.one (by assumption) | exact Prs.one (by assumption) | exact OwnP.one (by assumption) | exact Own.one (by assumption) | exact Row.one (by assumption) | exact OwnR.one (by assumption)); decide; decide; exact rfl; exact rfl; ((simp only [lay, lset, List.replicate_succ, List.replicate_zero]) <;> exact rfl); intro b5 wq hbq he hnq; have hltq := Bx.lt hbq; have hsz := he.size; have hx5 : Bx wq b5 [vb] 22 := hbq)
      | (have _ := tkD; refine W_appendF (w0 := wl) (base := wl.heap.size) rfl hvb1 rfl (EngC.ex (show Ex wp _ from (by repeat (first | exact Ex.refl _ | assumption | (refine Ex.of_grown ?_ (by assumption) (by intro k hk; cases hk; omega)) | (refine Ex.trans ?_ (by assumption))))) hec).1.1 rfl (show Bx _ b5 [vb] 22 from (by repeat (first | assumption | ((with_reducible apply Bx.grownS); assumption; (first | omega | exact Bx.ne (by assumption) (by omega))) | ((with_reducible apply Bx.below); assumption; omega) | ((with_reducible apply Bx.ex); assumption)))) ⟨by simp, by simp⟩ (show Ex wl _ from (by repeat (first | assumption | exact Ex.refl _ | (refine Ex.trans ?_ (by assumption)) | (refine Ex.of_grown ?_ (by assumption) (by intro k hk; cases hk; omega))))) (Nat.le_refl _) (by omega) ?_; intro v3 w3 hov he3 hbel hg3 hbl3; have hv31 := hov.one; have hsz := he3.size; (have hx3 := Bx.grown (Bx.ex (show Ex wp _ from (by repeat (first | exact Ex.refl _ | assumption | (refine Ex.of_grown ?_ (by assumption) (by intro k hk; cases hk; omega)) | (refine Ex.trans ?_ (by assumption))))) hx3) hg3 (fun e => (hec.2.2.1 b3 e.symm).1 rfl)); (have hpl : True := trivial))
      | (have _ := tkD; refine W_appendF (w0 := wl) (base := wl.heap.size) rfl hvb1 rfl (EngC.ex (show Ex wp _ from (by repeat (first | exact Ex.refl _ | assumption | (refine Ex.of_grown ?_ (by assumption) (by intro k hk; cases hk; omega)) | (refine Ex.trans ?_ (by assumption))))) hec.symm).1.1 rfl (show Bx _ b5 [vb] 22 from (by repeat (first | assumption | ((with_reducible apply Bx.grownS); assumption; (first | omega | exact Bx.ne (by assumption) (by omega))) | ((with_reducible apply Bx.below); assumption; omega) | ((with_reducible apply Bx.ex); assumption)))) ⟨by simp, by simp⟩ (show Ex wl _ from (by repeat (first | assumption | exact Ex.refl _ | (refine Ex.trans ?_ (by assumption)) | (refine Ex.of_grown ?_ (by assumption) (by intro k hk; cases hk; omega))))) (Nat.le_refl _) (by omega) ?_; intro v3 w3 hov he3 hbel hg3 hbl3; have hv31 := hov.one; have hsz := he3.size; (have hx3 := Bx.grown (Bx.ex (show Ex wp _ from (by repeat (first | exact Ex.refl _ | assumption | (refine Ex.of_grown ?_ (by assumption) (by intro k hk; cases hk; omega)) | (refine Ex.trans ?_ (by assumption))))) hx3) hg3 (fun e => (hec.2.2.2.1 b3 e.symm).1 rfl)); (have hrg : True := trivial))
      | (have _ := hpl; (with_reducible apply W_store); exact rfl; exact Bx.ex (by first | exact Ex.refl _ | assumption) hx3; exact Nat.le_of_ble_eq_true rfl; exact rfl; exact hv31; simp only [lset]; intro w4 hb4 hg4; have hsz := hg4.size; (have hec := EngC.step (EngC.ex (show Ex wp _ from (by repeat (first | exact Ex.refl _ | assumption | (refine Ex.of_grown ?_ (by assumption) (by intro k hk; cases hk; omega)) | (refine Ex.trans ?_ (by assumption))))) hec) (by omega) (by omega) heb hob (show Ex wb _ from (by repeat (first | exact Ex.refl _ | assumption | (refine Ex.of_grown ?_ (by assumption) (by intro k hk; cases hk; omega)) | (refine Ex.trans ?_ (by assumption))))) hov hg3 hbl3 hg4); (have hep : Ex wl w4 := Ex.of_grown he3 hg4 (by intro k hk; cases hk; omega)); (have hlt3 := Bx.lt hb4); (obtain ⟨wp, hwp⟩ : ∃ q, q = w4 := ⟨_, rfl⟩); subst hwp; (have hx3 := hb4); clear hpl)
      | (have _ := hrg; (with_reducible apply W_store); exact rfl; exact Bx.ex (by first | exact Ex.refl _ | assumption) hx3; exact Nat.le_of_ble_eq_true rfl; exact rfl; exact hv31; simp only [lset]; intro w4 hb4 hg4; have hsz := hg4.size; (have hec := (EngC.step (EngC.ex (show Ex wp _ from (by repeat (first | exact Ex.refl _ | assumption | (refine Ex.of_grown ?_ (by assumption) (by intro k hk; cases hk; omega)) | (refine Ex.trans ?_ (by assumption))))) hec.symm) (by omega) (by omega) heb hob (show Ex wb _ from (by repeat (first | exact Ex.refl _ | assumption | (refine Ex.of_grown ?_ (by assumption) (by intro k hk; cases hk; omega)) | (refine Ex.trans ?_ (by assumption))))) hov hg3 hbl3 hg4).symm); (have hep : Ex wl w4 := Ex.of_grown he3 hg4 (by intro k hk; cases hk; omega)); (have hlt3 := Bx.lt hb4); (obtain ⟨wp, hwp⟩ : ∃ q, q = w4 := ⟨_, rfl⟩); subst hwp; (have hx3 := hb4); clear hrg)
      | ((first | ((with_reducible apply W_op); exact rfl; exact rfl) | ((with_reducible apply WQ_op); exact rfl; exact rfl; intro wq he) | ((with_reducible apply WM_op); exact rfl; exact rfl; intro wq he) | ((with_reducible apply WB_op); exact rfl; exact rfl; intro wq)); (first | ((with_reducible apply r_indexArr); exact rfl; exact rfl; omega) | (exact r_indexArr (i := 0) rfl rfl (by decide)) | (exact r_indexArr (i := 1) rfl rfl (by decide)) | (exact r_indexArr (i := 2) rfl rfl (by decide)) | ((with_reducible apply r_fieldAddr); exact rfl) | ((with_reducible apply r_load); exact rfl; exact rfl; (first | assumption | exact (Bx.cell (by repeat (first | assumption | ((with_reducible apply Bx.grownS); assumption; (first | omega | exact Bx.ne (by assumption) (by omega))) | ((with_reducible apply Bx.below); assumption; omega) | ((with_reducible apply Bx.ex); assumption))) _).trans rfl | exact Ex.cell (by assumption) (by assumption))) | ((with_reducible apply r_loadF); exact rfl; (first | assumption | exact (Bx.cell (by repeat (first | assumption | ((with_reducible apply Bx.grownS); assumption; (first | omega | exact Bx.ne (by assumption) (by omega))) | ((with_reducible apply Bx.below); assumption; omega) | ((with_reducible apply Bx.ex); assumption))) _).trans rfl | exact Ex.cell (by assumption) (by assumption))) | ((with_reducible apply r_loadA); exact rfl; (first | assumption | exact Bx.cells (by repeat (first | assumption | ((with_reducible apply Bx.grownS); assumption; (first | omega | exact Bx.ne (by assumption) (by omega))) | ((with_reducible apply Bx.below); assumption; omega) | ((with_reducible apply Bx.ex); assumption))) | exact Cells.ex (by assumption) (by assumption)); exact rfl) | ((with_reducible apply r_build2); ((conv => lhs; whnf) <;> exact rfl); ((conv => lhs; whnf) <;> exact rfl); (first | exact rfl | assumption | exact IntsK.one (by assumption) | exact Prs.one (by assumption) | exact OwnP.one (by assumption) | exact Own.one (by assumption) | exact Row.one (by assumption) | exact OwnR.one (by assumption)); (first | exact rfl | assumption | exact IntsK.one (by assumption) | exact Prs.one (by assumption) | exact OwnP.one (by assumption) | exact Own.one (by assumption) | exact Row.one (by assumption) | exact OwnR.one (by assumption)); exact rfl; exact rfl; ((simp only [lay, lset, List.replicate_succ, List.replicate_zero]) <;> exact rfl)) | ((with_reducible apply r_loadSub); exact rfl; (focus ((repeat (first | assumption | ((with_reducible apply Bx.grownS); assumption; (first | omega | exact Bx.ne (by assumption) (by omega))) | ((with_reducible apply Bx.below); assumption; omega) | ((with_reducible apply Bx.ex); assumption))); done)); ((simp only [Nat.add_zero, Nat.zero_add, Nat.reduceAdd, List.drop_zero, List.drop_succ_cons, List.take_succ_cons, List.take_zero]) <;> exact rfl); exact rfl) | ((with_reducible apply r_bldA); kernel_rfl; ((conv => lhs; whnf) <;> exact rfl); ((conv => lhs; whnf) <;> exact rfl); (first | exact rfl | assumption | exact IntsK.one (by assumption) | exact Prs.one (by assumption) | exact OwnP.one (by assumption) | exact Own.one (by assumption) | exact Row.one (by assumption) | exact OwnR.one (by assumption))) | ((with_reducible apply r_arr3); ((conv => lhs; whnf) <;> exact rfl); ((conv => lhs; whnf) <;> exact rfl); ((conv => lhs; whnf) <;> exact rfl); (first | exact rfl | assumption | exact IntsK.one (by assumption) | exact Prs.one (by assumption) | exact OwnP.one (by assumption) | exact Own.one (by assumption) | exact Row.one (by assumption) | exact OwnR.one (by assumption)); (first | exact rfl | assumption | exact IntsK.one (by assumption) | exact Prs.one (by assumption) | exact OwnP.one (by assumption) | exact Own.one (by assumption) | exact Row.one (by assumption) | exact OwnR.one (by assumption)); (first | exact rfl | assumption | exact IntsK.one (by assumption) | exact Prs.one (by assumption) | exact OwnP.one (by assumption) | exact Own.one (by assumption) | exact Row.one (by assumption) | exact OwnR.one (by assumption)))))
      | (refine c_mixX (id := 1) [] [0, 1, 2, 5, 6, 7] 7 #[true, true, true, false, false, true, true, true, false, false, false, false, false] [false, false, false, false, false, false, false, false, false, false, false, false, false] [true, true, true, false, false, true, true, true, false, false, false, false, false] (by kernel_rfl) (by kernel_rfl) (by kernel_rfl) (by dsimp only [sel] <;> exact rfl) (by dsimp only [sel] <;> exact rfl) ?_)
      | (refine XT_two (t := 3) (t' := 11) (s := false) (s' := false) (listed := #[true, true, true, false, false, true, true, true, false, false, false, false, false]) (l1 := #[true, true, true, true, false, true, true, true, false, false, false, false, false]) (l1' := #[true, true, true, false, false, true, true, true, false, false, false, true, false]) (by kernel_rfl) rfl rfl (by kernel_rfl) (by kernel_rfl) (by kernel_rfl) (by kernel_rfl) ?_ ?_)
      | (refine XT_three (t := 4) (t' := 8) (t'' := 11) (s := false) (s' := true) (s'' := false) (listed := #[true, true, true, true, false, true, true, true, false, false, false, false, false]) (l1 := #[true, true, true, true, true, true, true, true, false, false, false, false, false]) (l1' := #[true, true, true, true, false, true, true, true, true, false, false, false, false]) (l1'' := #[true, true, true, true, false, true, true, true, false, false, false, true, false]) (by kernel_rfl) rfl rfl rfl (by kernel_rfl) (by kernel_rfl) (by kernel_rfl) (by kernel_rfl) (by kernel_rfl) (by kernel_rfl) ?_ ?_ ?_)
      | (refine XT_one (t := 3) (s := false) (listed := #[true, true, true, false, false, true, true, true, false, false, false, true, false]) (listed' := #[true, true, true, true, false, true, true, true, false, false, false, true, false]) (by kernel_rfl) rfl (by kernel_rfl) (by kernel_rfl) ?_)
      | (refine XT_two (t := 8) (t' := 11) (s := true) (s' := false) (listed := #[true, true, true, true, true, true, true, true, false, false, false, false, false]) (l1 := #[true, true, true, true, true, true, true, true, true, false, false, false, false]) (l1' := #[true, true, true, true, true, true, true, true, false, false, false, true, false]) (by kernel_rfl) rfl rfl (by kernel_rfl) (by kernel_rfl) (by kernel_rfl) (by kernel_rfl) ?_ ?_)
      | (refine XT_three (t := 4) (t' := 9) (t'' := 11) (s := false) (s' := true) (s'' := false) (listed := #[true, true, true, true, false, true, true, true, true, false, false, false, false]) (l1 := #[true, true, true, true, true, true, true, true, true, false, false, false, false]) (l1' := #[true, true, true, true, false, true, true, true, true, true, false, false, false]) (l1'' := #[true, true, true, true, false, true, true, true, true, false, false, true, false]) (by kernel_rfl) rfl rfl rfl (by kernel_rfl) (by kernel_rfl) (by kernel_rfl) (by kernel_rfl) (by kernel_rfl) (by kernel_rfl) ?_ ?_ ?_)
      | (refine XT_two (t := 4) (t' := 8) (s := false) (s' := true) (listed := #[true, true, true, true, false, true, true, true, false, false, false, true, false]) (l1 := #[true, true, true, true, true, true, true, true, false, false, false, true, false]) (l1' := #[true, true, true, true, false, true, true, true, true, false, false, true, false]) (by kernel_rfl) rfl rfl (by kernel_rfl) (by kernel_rfl) (by kernel_rfl) (by kernel_rfl) ?_ ?_)
      | (refine XT_two (t := 9) (t' := 11) (s := true) (s' := false) (listed := #[true, true, true, true, true, true, true, true, true, false, false, false, false]) (l1 := #[true, true, true, true, true, true, true, true, true, true, false, false, false]) (l1' := #[true, true, true, true, true, true, true, true, true, false, false, true, false]) (by kernel_rfl) rfl rfl (by kernel_rfl) (by kernel_rfl) (by kernel_rfl) (by kernel_rfl) ?_ ?_)
      | (refine XT_one (t := 8) (s := true) (listed := #[true, true, true, true, true, true, true, true, false, false, false, true, false]) (listed' := #[true, true, true, true, true, true, true, true, true, false, false, true, false]) (by kernel_rfl) rfl (by kernel_rfl) (by kernel_rfl) ?_)
      | (refine XT_two (t := 4) (t' := 11) (s := false) (s' := false) (listed := #[true, true, true, true, false, true, true, true, true, true, false, false, false]) (l1 := #[true, true, true, true, true, true, true, true, true, true, false, false, false]) (l1' := #[true, true, true, true, false, true, true, true, true, true, false, true, false]) (by kernel_rfl) rfl rfl (by kernel_rfl) (by kernel_rfl) (by kernel_rfl) (by kernel_rfl) ?_ ?_)
      | (refine XT_two (t := 4) (t' := 9) (s := false) (s' := true) (listed := #[true, true, true, true, false, true, true, true, true, false, false, true, false]) (l1 := #[true, true, true, true, true, true, true, true, true, false, false, true, false]) (l1' := #[true, true, true, true, false, true, true, true, true, true, false, true, false]) (by kernel_rfl) rfl rfl (by kernel_rfl) (by kernel_rfl) (by kernel_rfl) (by kernel_rfl) ?_ ?_)
      | (refine XT_two (t := 10) (t' := 11) (s := true) (s' := false) (listed := #[true, true, true, true, true, true, true, true, true, true, false, false, false]) (l1 := #[true, true, true, true, true, true, true, true, true, true, true, false, false]) (l1' := #[true, true, true, true, true, true, true, true, true, true, false, true, false]) (by kernel_rfl) rfl rfl (by kernel_rfl) (by kernel_rfl) (by kernel_rfl) (by kernel_rfl) ?_ ?_)
      | (refine XT_one (t := 9) (s := true) (listed := #[true, true, true, true, true, true, true, true, true, false, false, true, false]) (listed' := #[true, true, true, true, true, true, true, true, true, true, false, true, false]) (by kernel_rfl) rfl (by kernel_rfl) (by kernel_rfl) ?_)
      | (refine XT_one (t := 4) (s := false) (listed := #[true, true, true, true, false, true, true, true, true, true, false, true, false]) (listed' := #[true, true, true, true, true, true, true, true, true, true, false, true, false]) (by kernel_rfl) rfl (by kernel_rfl) (by kernel_rfl) ?_)
      | (refine XT_one (t := 11) (s := false) (listed := #[true, true, true, true, true, true, true, true, true, true, true, false, false]) (listed' := #[true, true, true, true, true, true, true, true, true, true, true, true, false]) (by kernel_rfl) rfl (by kernel_rfl) (by kernel_rfl) ?_)
      | (refine XT_one (t := 10) (s := true) (listed := #[true, true, true, true, true, true, true, true, true, true, false, true, false]) (listed' := #[true, true, true, true, true, true, true, true, true, true, true, true, false]) (by kernel_rfl) rfl (by kernel_rfl) (by kernel_rfl) ?_)
      | (refine XT_one (t := 12) (s := true) (listed := #[true, true, true, true, true, true, true, true, true, true, true, true, false]) (listed' := #[true, true, true, true, true, true, true, true, true, true, true, true, true]) (by kernel_rfl) rfl (by kernel_rfl) (by kernel_rfl) ?_)
      | (with_reducible apply XB_nil)
      | ((with_reducible apply XM_nil); intro wq he; have hsz := he.size)
      | ((with_reducible apply XT_nil); kernel_rfl)
      | (with_reducible apply x_sink)
      | ((with_reducible apply x_keep); (focus ((repeat (first | assumption | exact Ex.refl _ | (refine Ex.trans ?_ (by assumption)) | (refine Ex.of_grown ?_ (by assumption) (by intro k hk; cases hk; omega)))); done)); intro wq he; have hsz := he.size)
      | (refine c_mixX (id := 3) [] [0, 1, 2, 3, 4] 5 #[true, true, true, true, true, false, false, false, false, false] [false, false, false, false, false, false, false, false, false, false] [true, true, true, true, true, false, false, false, false, false] (by kernel_rfl) (by kernel_rfl) (by kernel_rfl) (by dsimp only [sel] <;> exact rfl) (by dsimp only [sel] <;> exact rfl) ?_)
      | (refine XT_one (t := 5) (s := false) (listed := #[true, true, true, true, true, false, false, false, false, false]) (listed' := #[true, true, true, true, true, true, false, false, false, false]) (by kernel_rfl) rfl (by kernel_rfl) (by kernel_rfl) ?_)
      | (refine XT_one (t := 6) (s := false) (listed := #[true, true, true, true, true, true, false, false, false, false]) (listed' := #[true, true, true, true, true, true, true, false, false, false]) (by kernel_rfl) rfl (by kernel_rfl) (by kernel_rfl) ?_)
      | (refine XT_one (t := 7) (s := true) (listed := #[true, true, true, true, true, true, true, false, false, false]) (listed' := #[true, true, true, true, true, true, true, true, false, false]) (by kernel_rfl) rfl (by kernel_rfl) (by kernel_rfl) ?_)
      | (refine XT_one (t := 8) (s := true) (listed := #[true, true, true, true, true, true, true, true, false, false]) (listed' := #[true, true, true, true, true, true, true, true, true, false]) (by kernel_rfl) rfl (by kernel_rfl) (by kernel_rfl) ?_)
      | (refine XT_one (t := 9) (s := true) (listed := #[true, true, true, true, true, true, true, true, true, false]) (listed' := #[true, true, true, true, true, true, true, true, true, true]) (by kernel_rfl) rfl (by kernel_rfl) (by kernel_rfl) ?_)
      | (with_reducible apply XB_nil)
      | ((with_reducible apply XM_nil); intro wq he; have hsz := he.size)
      | ((with_reducible apply XT_nil); kernel_rfl)
      | (with_reducible apply x_sink)
      | ((with_reducible apply x_keep); (focus ((repeat (first | assumption | exact Ex.refl _ | (refine Ex.trans ?_ (by assumption)) | (refine Ex.of_grown ?_ (by assumption) (by intro k hk; cases hk; omega)))); done)); intro wq he; have hsz := he.size)
      | (refine c_mixX (id := 5) [] [0, 1, 2, 3, 4] 5 #[true, true, true, true, true, false, false, false, false, false] [false, false, false, false, false, false, false, false, false, false] [true, true, true, true, true, false, false, false, false, false] (by kernel_rfl) (by kernel_rfl) (by kernel_rfl) (by dsimp only [sel] <;> exact rfl) (by dsimp only [sel] <;> exact rfl) ?_)
      | (refine XT_one (t := 5) (s := false) (listed := #[true, true, true, true, true, false, false, false, false, false]) (listed' := #[true, true, true, true, true, true, false, false, false, false]) (by kernel_rfl) rfl (by kernel_rfl) (by kernel_rfl) ?_)
      | (refine XT_one (t := 6) (s := false) (listed := #[true, true, true, true, true, true, false, false, false, false]) (listed' := #[true, true, true, true, true, true, true, false, false, false]) (by kernel_rfl) rfl (by kernel_rfl) (by kernel_rfl) ?_)
      | (refine XT_one (t := 7) (s := true) (listed := #[true, true, true, true, true, true, true, false, false, false]) (listed' := #[true, true, true, true, true, true, true, true, false, false]) (by kernel_rfl) rfl (by kernel_rfl) (by kernel_rfl) ?_)
      | (refine XT_one (t := 8) (s := true) (listed := #[true, true, true, true, true, true, true, true, false, false]) (listed' := #[true, true, true, true, true, true, true, true, true, false]) (by kernel_rfl) rfl (by kernel_rfl) (by kernel_rfl) ?_)
      | (refine XT_one (t := 9) (s := true) (listed := #[true, true, true, true, true, true, true, true, true, false]) (listed' := #[true, true, true, true, true, true, true, true, true, true]) (by kernel_rfl) rfl (by kernel_rfl) (by kernel_rfl) ?_)
      | (with_reducible apply XB_nil)
      | ((with_reducible apply XM_nil); intro wq he; have hsz := he.size)
      | ((with_reducible apply XT_nil); kernel_rfl)
      | (with_reducible apply x_sink)
      | ((with_reducible apply x_keep); (focus ((repeat (first | assumption | exact Ex.refl _ | (refine Ex.trans ?_ (by assumption)) | (refine Ex.of_grown ?_ (by assumption) (by intro k hk; cases hk; omega)))); done)); intro wq he; have hsz := he.size)
      | (with_reducible apply W_nil)
      | ((with_reducible apply WQ_nil); exact rfl; intro wq he; have hsz := he.size)
      | (with_reducible apply WM_nil; intro wq he; have hsz := he.size)
      | (with_reducible apply WB_nil)
      | (with_reducible apply WT_nil)
      | (with_reducible apply WT_cons)
      | (with_reducible apply t_sink)
      | ((with_reducible apply t_keep); (focus ((repeat (first | assumption | exact Ex.refl _ | (refine Ex.trans ?_ (by assumption)) | (refine Ex.of_grown ?_ (by assumption) (by intro k hk; cases hk; omega)))); done)); intro wq he; have hsz := he.size)
      | ((with_reducible apply W_box); exact rfl; exact rfl; intro bq wq hbq he hnq; have hltq := Bx.lt hbq; have hsz := he.size)
      | ((with_reducible apply W_alloc); exact rfl; intro bq wq hbq he hnq; have hltq := Bx.lt hbq; have hsz := he.size)
      | ((with_reducible apply W_indexInt); ((conv => lhs; whnf) <;> exact rfl); (focus ((repeat (first | assumption | ((with_reducible apply OwnR.grownS); assumption; omega) | ((with_reducible apply Row.ex); assumption) | ((with_reducible apply OwnR.ex); assumption) | ((refine IntsK.exH (by assumption) ?_); (focus ((repeat (first | exact Ex.refl _ | assumption | (refine Ex.of_grown ?_ (by assumption) (by intro k hk; cases hk; omega)) | (refine Ex.trans ?_ (by assumption)))); done))) | ((refine Prs.exH (by assumption) ?_); (focus ((repeat (first | exact Ex.refl _ | assumption | (refine Ex.of_grown ?_ (by assumption) (by intro k hk; cases hk; omega)) | (refine Ex.trans ?_ (by assumption)))); done))) | ((with_reducible apply Bx.grownS); assumption; (first | omega | exact Bx.ne (by assumption) (by omega))) | ((with_reducible apply Bx.below); assumption; omega) | ((with_reducible apply OwnP.grownS); assumption; omega) | ((with_reducible apply Own.grownS); assumption; omega) | ((with_reducible apply Bx.ex); assumption) | ((with_reducible apply IntsK.ex); assumption) | ((with_reducible apply Own.ex); assumption) | ((with_reducible apply Prs.ex); assumption) | ((with_reducible apply OwnP.ex); assumption))); done)); exact rfl; omega; intro pq hpq)
      | ((with_reducible apply W_indexIntss); ((conv => lhs; whnf) <;> exact rfl); assumption; (focus ((repeat (first | assumption | exact Ex.refl _ | (refine Ex.trans ?_ (by assumption)) | (refine Ex.of_grown ?_ (by assumption) (by intro k hk; cases hk; omega)))); done)); exact rfl; omega; intro pq uq hpq huq)
      | ((with_reducible apply WQ_indexInt); ((conv => lhs; whnf) <;> exact rfl); (focus ((repeat (first | assumption | ((with_reducible apply OwnR.grownS); assumption; omega) | ((with_reducible apply Row.ex); assumption) | ((with_reducible apply OwnR.ex); assumption) | ((refine IntsK.exH (by assumption) ?_); (focus ((repeat (first | exact Ex.refl _ | assumption | (refine Ex.of_grown ?_ (by assumption) (by intro k hk; cases hk; omega)) | (refine Ex.trans ?_ (by assumption)))); done))) | ((refine Prs.exH (by assumption) ?_); (focus ((repeat (first | exact Ex.refl _ | assumption | (refine Ex.of_grown ?_ (by assumption) (by intro k hk; cases hk; omega)) | (refine Ex.trans ?_ (by assumption)))); done))) | ((with_reducible apply Bx.grownS); assumption; (first | omega | exact Bx.ne (by assumption) (by omega))) | ((with_reducible apply Bx.below); assumption; omega) | ((with_reducible apply OwnP.grownS); assumption; omega) | ((with_reducible apply Own.grownS); assumption; omega) | ((with_reducible apply Bx.ex); assumption) | ((with_reducible apply IntsK.ex); assumption) | ((with_reducible apply Own.ex); assumption) | ((with_reducible apply Prs.ex); assumption) | ((with_reducible apply OwnP.ex); assumption))); done)); exact rfl; omega; intro pq hpq)
      | ((with_reducible apply WQ_indexIntss); ((conv => lhs; whnf) <;> exact rfl); assumption; (focus ((repeat (first | assumption | exact Ex.refl _ | (refine Ex.trans ?_ (by assumption)) | (refine Ex.of_grown ?_ (by assumption) (by intro k hk; cases hk; omega)))); done)); exact rfl; omega; intro pq uq hpq huq)
      | ((with_reducible apply WM_indexInt); ((conv => lhs; whnf) <;> exact rfl); (focus ((repeat (first | assumption | ((with_reducible apply OwnR.grownS); assumption; omega) | ((with_reducible apply Row.ex); assumption) | ((with_reducible apply OwnR.ex); assumption) | ((refine IntsK.exH (by assumption) ?_); (focus ((repeat (first | exact Ex.refl _ | assumption | (refine Ex.of_grown ?_ (by assumption) (by intro k hk; cases hk; omega)) | (refine Ex.trans ?_ (by assumption)))); done))) | ((refine Prs.exH (by assumption) ?_); (focus ((repeat (first | exact Ex.refl _ | assumption | (refine Ex.of_grown ?_ (by assumption) (by intro k hk; cases hk; omega)) | (refine Ex.trans ?_ (by assumption)))); done))) | ((with_reducible apply Bx.grownS); assumption; (first | omega | exact Bx.ne (by assumption) (by omega))) | ((with_reducible apply Bx.below); assumption; omega) | ((with_reducible apply OwnP.grownS); assumption; omega) | ((with_reducible apply Own.grownS); assumption; omega) | ((with_reducible apply Bx.ex); assumption) | ((with_reducible apply IntsK.ex); assumption) | ((with_reducible apply Own.ex); assumption) | ((with_reducible apply Prs.ex); assumption) | ((with_reducible apply OwnP.ex); assumption))); done)); exact rfl; omega; intro pq hpq)
      | ((with_reducible apply WM_indexIntss); ((conv => lhs; whnf) <;> exact rfl); assumption; (focus ((repeat (first | assumption | exact Ex.refl _ | (refine Ex.trans ?_ (by assumption)) | (refine Ex.of_grown ?_ (by assumption) (by intro k hk; cases hk; omega)))); done)); exact rfl; omega; intro pq uq hpq huq)
      | ((with_reducible apply W_indexPr); ((conv => lhs; whnf) <;> exact rfl); (focus ((repeat (first | assumption | ((with_reducible apply OwnR.grownS); assumption; omega) | ((with_reducible apply Row.ex); assumption) | ((with_reducible apply OwnR.ex); assumption) | ((refine IntsK.exH (by assumption) ?_); (focus ((repeat (first | exact Ex.refl _ | assumption | (refine Ex.of_grown ?_ (by assumption) (by intro k hk; cases hk; omega)) | (refine Ex.trans ?_ (by assumption)))); done))) | ((refine Prs.exH (by assumption) ?_); (focus ((repeat (first | exact Ex.refl _ | assumption | (refine Ex.of_grown ?_ (by assumption) (by intro k hk; cases hk; omega)) | (refine Ex.trans ?_ (by assumption)))); done))) | ((with_reducible apply Bx.grownS); assumption; (first | omega | exact Bx.ne (by assumption) (by omega))) | ((with_reducible apply Bx.below); assumption; omega) | ((with_reducible apply OwnP.grownS); assumption; omega) | ((with_reducible apply Own.grownS); assumption; omega) | ((with_reducible apply Bx.ex); assumption) | ((with_reducible apply IntsK.ex); assumption) | ((with_reducible apply Own.ex); assumption) | ((with_reducible apply Prs.ex); assumption) | ((with_reducible apply OwnP.ex); assumption))); done)); exact rfl; omega; intro pq hpq)
      | ((with_reducible apply WQ_indexPr); ((conv => lhs; whnf) <;> exact rfl); (focus ((repeat (first | assumption | ((with_reducible apply OwnR.grownS); assumption; omega) | ((with_reducible apply Row.ex); assumption) | ((with_reducible apply OwnR.ex); assumption) | ((refine IntsK.exH (by assumption) ?_); (focus ((repeat (first | exact Ex.refl _ | assumption | (refine Ex.of_grown ?_ (by assumption) (by intro k hk; cases hk; omega)) | (refine Ex.trans ?_ (by assumption)))); done))) | ((refine Prs.exH (by assumption) ?_); (focus ((repeat (first | exact Ex.refl _ | assumption | (refine Ex.of_grown ?_ (by assumption) (by intro k hk; cases hk; omega)) | (refine Ex.trans ?_ (by assumption)))); done))) | ((with_reducible apply Bx.grownS); assumption; (first | omega | exact Bx.ne (by assumption) (by omega))) | ((with_reducible apply Bx.below); assumption; omega) | ((with_reducible apply OwnP.grownS); assumption; omega) | ((with_reducible apply Own.grownS); assumption; omega) | ((with_reducible apply Bx.ex); assumption) | ((with_reducible apply IntsK.ex); assumption) | ((with_reducible apply Own.ex); assumption) | ((with_reducible apply Prs.ex); assumption) | ((with_reducible apply OwnP.ex); assumption))); done)); exact rfl; omega; intro pq hpq)
      | ((with_reducible apply W_bsP); exact rfl; exact rfl; intro bq wq hbq he hnq; have hltq := Bx.lt hbq; have hsz := he.size)
      | ((with_reducible apply W_storeA); exact rfl; (focus ((repeat (first | assumption | ((with_reducible apply Bx.grownS); assumption; (first | omega | exact Bx.ne (by assumption) (by omega))) | ((with_reducible apply Bx.below); assumption; omega) | ((with_reducible apply Bx.ex); assumption))); done)); exact rfl; exact rfl; exact rfl; (repeat' (first | exact trivial | (first | exact rfl | assumption | exact IntsK.one (by assumption) | exact Prs.one (by assumption) | exact OwnP.one (by assumption) | exact Own.one (by assumption) | exact Row.one (by assumption) | exact OwnR.one (by assumption)) | constructor)); intro wq hbq hgq; have he : Ex w wq := (by repeat (first | assumption | exact Ex.refl _ | (refine Ex.trans ?_ (by assumption)) | (refine Ex.of_grown ?_ (by assumption) (by intro k hk; cases hk; omega)))); have hsz := he.size; have hgz := hgq.size)
      | ((with_reducible apply W_store); exact rfl; (focus ((repeat (first | assumption | ((with_reducible apply Bx.grownS); assumption; (first | omega | exact Bx.ne (by assumption) (by omega))) | ((with_reducible apply Bx.below); assumption; omega) | ((with_reducible apply Bx.ex); assumption))); done)); exact Nat.le_of_ble_eq_true rfl; ((conv => lhs; whnf) <;> exact rfl); (first | exact rfl | assumption | exact IntsK.one (by assumption) | exact Prs.one (by assumption) | exact OwnP.one (by assumption) | exact Own.one (by assumption) | exact Row.one (by assumption) | exact OwnR.one (by assumption)); simp only [lset]; intro wq hbq hgq; have he : Ex w wq := (by repeat (first | assumption | exact Ex.refl _ | (refine Ex.trans ?_ (by assumption)) | (refine Ex.of_grown ?_ (by assumption) (by intro k hk; cases hk; omega)))); have hsz := he.size; have hgz := hgq.size)
      | ((with_reducible apply c_quiet); kernel_rfl)
      | ((with_reducible apply W_bs1); ((conv => lhs; whnf) <;> exact rfl); (first | exact rfl | assumption | exact IntsK.one (by assumption) | exact Prs.one (by assumption) | exact OwnP.one (by assumption) | exact Own.one (by assumption) | exact Row.one (by assumption) | exact OwnR.one (by assumption)); decide; decide; exact rfl; exact rfl; ((simp only [lay, lset, List.replicate_succ, List.replicate_zero]) <;> exact rfl); intro bq wq hbq he hnq; have hltq := Bx.lt hbq; have hsz := he.size)
      | (with_reducible apply c_seq)
      | ((with_reducible apply c_region); kernel_rfl)
      | (with_reducible apply n_nq)
      | (with_reducible apply c_skip)
      | (with_reducible apply c_ret)
      | ((with_reducible apply c_cond_true); exact rfl)
      | ((with_reducible apply c_cond_false); exact rfl)
      | ((with_reducible apply c_cond_dec); exact rfl; intro _; rotate_left 1; intro _)
      | ((with_reducible apply c_cond_bool); exact rfl; intro _; rotate_left 1; intro _)
      | (with_reducible apply n_then)
      | (with_reducible apply e_then)
      | (with_reducible apply r_then)
      | ((with_reducible apply p_retc); exact rfl; exact rfl; exact inferInstance; exact inferInstance; exact rfl; (focus ((repeat (first | assumption | ((with_reducible apply Bx.grownS); assumption; (first | omega | exact Bx.ne (by assumption) (by omega))) | ((with_reducible apply Bx.below); assumption; omega) | ((with_reducible apply Bx.ex); assumption))); done)); exact rfl; refine ⟨_, rfl, ?_, (by repeat (first | assumption | exact Ex.refl _ | (refine Ex.trans ?_ (by assumption)) | (refine Ex.of_grown ?_ (by assumption) (by intro k hk; cases hk; omega))))⟩)
      | ((with_reducible apply m_retc); (focus ((repeat (first | assumption | exact Al.nil _ _ | ((with_reducible apply Al.grownS); assumption; (focus ((repeat (first | assumption | ((with_reducible apply Bx.grownS); assumption; (first | omega | exact Bx.ne (by assumption) (by omega))) | ((with_reducible apply Bx.below); assumption; omega) | ((with_reducible apply Bx.ex); assumption))); done))) | (refine Al.ex (by assumption) ?_))); done)); exact rfl; exact inferInstance; exact rfl; exact rfl; (focus ((repeat (first | assumption | ((with_reducible apply Bx.grownS); assumption; (first | omega | exact Bx.ne (by assumption) (by omega))) | ((with_reducible apply Bx.below); assumption; omega) | ((with_reducible apply Bx.ex); assumption))); done)); refine ⟨_, rfl, ?_, (shut_grown _ _ (by repeat (first | assumption | exact Al.nil _ _ | ((with_reducible apply Al.grownS); assumption; (focus ((repeat (first | assumption | ((with_reducible apply Bx.grownS); assumption; (first | omega | exact Bx.ne (by assumption) (by omega))) | ((with_reducible apply Bx.below); assumption; omega) | ((with_reducible apply Bx.ex); assumption))); done))) | (refine Al.ex (by assumption) ?_))) (by repeat (first | assumption | exact Ex.refl _ | (refine Ex.trans ?_ (by assumption)) | (refine Ex.of_grown ?_ (by assumption) (by intro k hk; cases hk; omega)))) (Nat.le_refl _))⟩)
      | ((with_reducible apply p_retct); exact rfl; exact rfl; exact inferInstance; exact inferInstance; exact rfl; (focus ((repeat (first | assumption | ((with_reducible apply Bx.grownS); assumption; (first | omega | exact Bx.ne (by assumption) (by omega))) | ((with_reducible apply Bx.below); assumption; omega) | ((with_reducible apply Bx.ex); assumption))); done)); exact rfl; exact rfl; refine ⟨_, rfl, ?_, (by repeat (first | assumption | exact Ex.refl _ | (refine Ex.trans ?_ (by assumption)) | (refine Ex.of_grown ?_ (by assumption) (by intro k hk; cases hk; omega))))⟩)
      | ((exfalso; omega)))
  all_goals first
    | exact ⟨_, _, _, _, rfl, EngV.fin hec.1 (show Ex wp _ from (by repeat (first | exact Ex.refl _ | assumption | (refine Ex.of_grown ?_ (by assumption) (by intro k hk; cases hk; omega)) | (refine Ex.trans ?_ (by assumption))))) hgq (by omega) (by omega), EngV.fin hec.2.1 (show Ex wp _ from (by repeat (first | exact Ex.refl _ | assumption | (refine Ex.of_grown ?_ (by assumption) (by intro k hk; cases hk; omega)) | (refine Ex.trans ?_ (by assumption))))) hgq (by omega) (by omega)⟩
    | trace_state
end Go.Proofs.Ytlphfobpheefkaa
