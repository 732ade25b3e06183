/-
  What this text proves: laws for slices of any one-cell values, over any program.
-/
import Derived.Test.YtlphfobpheefkaaR
namespace Go.Pv
open Go.RowKit
set_option linter.unusedVariables false
set_option linter.unusedSimpArgs false

/-- The call's own slice of values. -/
def OwnV (E : TypeId) (base : Nat) (w : World) (v : Value) (xs : List Value) : Prop := xs.length ≤ maxLen ∧ w.ownsRow base E 1 v xs.length xs
/-- A slice of values that is read. -/
def Vals (w : World) (v : Value) (xs : List Value) : Prop := Sl (fun _ u x => u = x) w v xs
theorem OwnV.nil (E : TypeId) (base : Nat) (w : World) : OwnV E base w (.slice none 0 0) [] := ⟨Nat.zero_le _, World.ownsRow_nil _ _ _ _⟩
theorem OwnV.ex {E : TypeId} {base : Nat} {w w' : World} {v : Value} {xs : List Value} (e : Ex w w') (h : OwnV E base w v xs) : OwnV E base w' v xs :=
  ⟨h.1, h.2.kept e.grownBy (by cases v.ownBlock <;> simp)⟩
theorem OwnV.grownS {E : TypeId} {base b : Nat} {w w' : World} {v : Value} {xs : List Value} (hg : w.grownBy w' (some b)) (hb : b < base) (h : OwnV E base w v xs) : OwnV E base w' v xs :=
  ⟨h.1, h.2.kept hg (by
    cases e : v.ownBlock with
    | none => exact .inl rfl
    | some k => right; have := (h.2.lt k e).1; simp; omega)⟩
theorem OwnV.one {E : TypeId} {base : Nat} {w : World} {v : Value} {xs : List Value} (h : OwnV E base w v xs) : v.oneCell' = true := by
  rcases h.2.2 with ⟨rfl, _⟩ | ⟨g, cap, cur, rfl, _⟩ <;> rfl
theorem OwnV.vals {E : TypeId} {base : Nat} {w : World} {v : Value} {xs : List Value} (h : OwnV E base w v xs) : Vals w v xs := by
  obtain ⟨h0, h1, h2⟩ := h
  rcases h2 with ⟨rfl, h2⟩ | ⟨g, cap, cur, rfl, hb, hh, hn, hm, hs, ht⟩
  · have : xs = [] := by
      rcases xs with _ | ⟨x, r⟩
      · rfl
      · first | (simp at h2; done) | (cases h2; done) | exact absurd h2 (by simp)
    subst this
    exact ⟨h0, none, 0, rfl, Nat.zero_le _, Nat.zero_le _, fun i hi => absurd hi (by simp)⟩
  · refine ⟨h0, some ⟨g, 0, none⟩, cap, rfl, hn, hm, fun i hi => ⟨⟨g, 0, none⟩, xs[i], rfl, ?_, rfl⟩⟩
    rw [add_mk]
    simp only [World.cell?, hh, Nat.zero_add]
    have e : (List.take (xs.length * 1) cur.toList)[i]? = some xs[i] := by rw [ht]; exact List.getElem?_eq_getElem hi
    rw [List.getElem?_take] at e
    split at e
    · simpa using e
    · cases e
theorem Vals.ex {w w' : World} {v : Value} {xs : List Value} (e : Ex w w') (h : Vals w v xs) : Vals w' v xs := by
  obtain ⟨h0, a, cap, h1, h2, h3, h4⟩ := h
  refine ⟨h0, a, cap, h1, h2, h3, fun i h => ?_⟩
  obtain ⟨p, u, h5, h6, h7⟩ := h4 i h
  exact ⟨p, u, h5, e.cell h6, h7⟩
theorem Vals.one {w : World} {v : Value} {xs : List Value} (h : Vals w v xs) : v.oneCell' = true := by
  obtain ⟨_, a, cap, rfl, _⟩ := h; rfl
theorem Vals.len {w : World} {v : Value} {xs : List Value} (h : Vals w v xs) : xs.length ≤ 9223372036854775807 := h.1
theorem Ex.tb {a b c : World} (h : Ex a b) (k : Below a.heap.size b c) : Ex a c := by unfold Ex at *; exact h.trans k
section
variable {P : Program} {Q : Exit → Act → World → Prop} {ol rest : List Oper} {l : St} {w : World} {od : Option Nat} {ty : TypeId} {pos : String} {af : Array Edge}
theorem r_lenVals {x : Operand} {T e : TypeId} {v : Value} {xs : List Value} [h : Und P T (.slice e)] (hx : ev l x = v) (hs : Vals w v xs) :
    Runs P ⟨od, .call { callee := .builtin .len, args := #[x], argTypes := #[T] }, ty, pos, af, none⟩ l w (.int .i64 xs.length) := r_lenSl (e := e) hx hs
theorem r_mf1 {fn : Fn} {x : Operand} {u : Value} (h : ev l x = u) : Runs P ⟨od, .makeFunc fn #[x] #[], ty, pos, af, none⟩ l w (.func fn #[u] #[]) := by
  have := r_makeFunc (P := P) (od := od) (ty := ty) (pos := pos) (af := af) (w := w) (l := l) (fn := fn) (first := [x]) (captured := []) (a := [u]) (b := []) (by simp [evs, h]) rfl
  exact this
theorem r_mfc {fn : Fn} {x : Operand} {u : Value} (h : ev l x = u) : Runs P ⟨od, .makeFunc fn #[] #[x], ty, pos, af, none⟩ l w (.func fn #[] #[u]) := by
  have := r_makeFunc (P := P) (od := od) (ty := ty) (pos := pos) (af := af) (w := w) (l := l) (fn := fn) (first := []) (captured := [x]) (a := []) (b := [u]) rfl (by simp [evs, h])
  exact this
theorem W_indexVals {d : Nat} {x ix : Operand} {T e : TypeId} {v : Value} {i : Nat} {k : IntKind} {z : Value} {b : Nat} {xs : List Value} [h : Und P T (.slice e)] [hs : Sz P e z 1 b] (hx : ev l x = v) (hv : Vals w v xs) (hi : ev l ix = .int k (i : Int)) (hlt : i < xs.length)
    (K : ∀ p, w.cell? p = some (xs.getD i undef) → W P ol Q rest (upd l d (.pointer (some p))) w) : W P ol Q (⟨some d, .indexAddr T x ix, ty, pos, af, none⟩ :: rest) l w := by
  refine W_indexR (e := e) hx hv hi hlt fun p u h1 h2 => K p ?_
  subst h2
  rw [h1]
  simp [hlt]
theorem W_appendV {d : Nat} {x y : Operand} {T e : TypeId} {bytes base b c : Nat} {v z : Value} {xs : List Value} {m : Value} {w0 : World} [hT : Und P T (.slice e)] [hz : Sz P e z 1 bytes] (hzc : z.cells.size = 1) (hm : m.oneCell' = true)
    (hx : ev l x = v) (hown : OwnV e base w v xs) (hy : ev l y = .slice (some ⟨b, 0, none⟩) 1 c) (hb : Bx w b [m] e) (hlen : (xs.length + 1) * bytes ≤ 140737488355328 ∧ xs.length + 1 ≤ 9223372036854775807) (h0 : Ex w0 w) (hbase : w0.heap.size ≤ base) (hbase2 : base ≤ w.heap.size)
    (K : ∀ v' w', OwnV e base w' v' (xs ++ [m]) → Ex w0 w' → Below base w w' → w.grownBy w' v.ownBlock → W P ol Q rest (upd l d v') w') :
    W P ol Q (⟨some d, .call { callee := .builtin .append, args := #[x, y], argTypes := #[T, T] }, ty, pos, af, none⟩ :: rest) l w := by
  obtain ⟨i, h1, h2, h3, h4⟩ := hz.parts
  unfold W
  refine wpList_append_own w rfl x y T rfl base e i z 1 bytes hT.out h1 h2 h3 h4 hzc (by decide) v xs.length xs (by rw [eval_act]; exact hx) hown.2 ⟨b, 0, none⟩ 1 c [m] (by rw [eval_act]; exact hy) rfl (fun j u hj => by have := Bx.cells hb; unfold Cells at this; exact this j u hj) (by simpa using hm) (by unfold maxLen; omega) hlen.1 hbase2 ?_
  intro v' w' hown' hg _
  rw [put_act]
  have K' := K v' w' ⟨by unfold maxLen; simp; omega, by simpa using hown'⟩ (h0.of_grown hg fun k hk => ?_) ((Below.refl base w).grown hg hbase2 fun k hk => (hown.2.lt k hk).1) hg
  · unfold W at K'; exact K'
  · have := hown.2.lt k hk
    omega
end
attribute [irreducible] OwnV Vals
end Go.Pv
