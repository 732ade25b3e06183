/-
  What this text proves: a store of a number into the second field of an element of an own slice of pairs. Over any program.
-/
import Derived.Test.YtngoipmdhliigaaVKq
set_option linter.unusedVariables false
set_option linter.unusedSimpArgs false
namespace Go.Pv
open Go.RowKit
theorem flat_set1 {xs : List (Int × Int)} {i : Nat} (hi : i < xs.length) (m : Int) : (xs.flatMap pc).set (i * 2 + 1) (.int .i64 m) = (xs.set i ((xs.getD i (0, 0)).1, m)).flatMap pc := by
  obtain ⟨e1, e2, e3⟩ := pairs_split hi ((xs.getD i (0, 0)).1, m)
  have hl : ((xs.take i).flatMap pc).length = i * 2 := by rw [pairs_len]; simp; omega
  have hg : xs.getD i (0, 0) = xs[i] := by simp [hi]
  rw [e2, e1, List.set_append_right _ _ (by omega), hl, show i * 2 + 1 - i * 2 = 1 by omega, hg]
  rfl
section
variable {P : Program} {Q : Exit → Act → World → Prop} {ol rest : List Oper} {l : St} {w : World} {ty : TypeId} {pos : String} {af : Array Edge}
theorem W_storeOP1 {i g cap n : Nat} {base : Nat} {e T : TypeId} {x y : Operand} {xs : List (Int × Int)} {m : Int} {z : Value} {bytes : Nat} {w0 : World} [hz : Sz P T z 1 bytes] (h0 : Ex w0 w) (hb0 : w0.heap.size ≤ base) (hown : OwnP e base w (.slice (some ⟨g, 0, none⟩) n cap) xs) (hx : ev l x = .pointer (some ⟨g, i * 2 + 1, none⟩)) (hi : i < xs.length) (hy : ev l y = .int .i64 m)
    (K : ∀ w', OwnP e base w' (.slice (some ⟨g, 0, none⟩) n cap) (xs.set i ((xs.getD i (0, 0)).1, m)) → Ex w0 w' → w.grownBy w' (some g) → W P ol Q rest l w') : W P ol Q (⟨none, .store T x y, ty, pos, af, none⟩ :: rest) l w := by
  have hlt := hown.lt g rfl
  unfold OwnP at hown
  obtain ⟨h1, h2, h3⟩ := hown
  rcases h3 with ⟨h4, _⟩ | ⟨g', cap', cur, h4, hb, hh, hn, hm, hs, ht⟩
  · cases h4
  cases h4
  have hbx : Bx w g cur.toList e := by unfold Bx; rw [hh]
  have hcl : cur.toList.length = cap * 2 := by simpa using hs
  refine W_store (o := i * 2 + 1) (v := .int .i64 m) hx hbx (by omega) hy rfl fun w' hb' hg => K w' ?_ (h0.of_grown hg fun k hk => by cases hk; omega) hg
  rw [← lset_eq] at hb'
  unfold Bx at hb'
  unfold OwnP
  refine ⟨by simpa using h1, by rw [pairs_len], .inr ⟨g, cap, (cur.toList.set (i * 2 + 1) (.int .i64 m)).toArray, by rw [List.length_set], hb, hb', by simpa using hn, hm, by simpa using hs, ?_⟩⟩
  rw [List.length_set, List.take_set]
  have e : List.take (xs.length * 2) cur.toList = xs.flatMap pc := ht
  rw [e]
  exact flat_set1 hi m
theorem OwnP.at {E : TypeId} {base : Nat} {w : World} {v : Value} {xs : List (Int × Int)} (h : OwnP E base w v xs) {i : Nat} (hi : i < xs.length) : ∃ g cap, v = .slice (some ⟨g, 0, none⟩) xs.length cap ∧ base ≤ g ∧ g < w.heap.size := by
  unfold OwnP at h
  obtain ⟨h0, h1, h2⟩ := h
  rcases h2 with ⟨_, h3⟩ | ⟨g, cap, cur, h3, h4, h5, _⟩
  · omega
  · exact ⟨g, cap, h3, h4, (Array.getElem?_eq_some_iff.1 h5).1⟩
theorem OwnP.cells {E : TypeId} {base g n cap : Nat} {w : World} {xs : List (Int × Int)} (h : OwnP E base w (.slice (some ⟨g, 0, none⟩) n cap) xs) {i : Nat} (hi : i < xs.length) : Cells w ⟨g, i * 2, none⟩ (pc (xs.getD i (0, 0))) := by
  have := h.prs
  unfold Prs at this
  obtain ⟨_, a, c, h1, h2, h3, h4⟩ := this
  cases h1
  obtain ⟨p, hp, hc⟩ := h4 i hi
  cases hp
  rw [add_mk, Nat.zero_add] at hc
  have e : xs.getD i (0, 0) = xs[i] := by simp [hi]
  rw [e]; exact hc
/-- The address of an element of a slice of pairs of the call's own. -/
theorem r_indexOP {x ix : Operand} {T e : TypeId} {b i m c n bb : Nat} {k : IntKind} {z : Value} {od : Option Nat} [h : Und P T (.slice e)] [hs : Sz P e z n bb] (hx : ev l x = .slice (some ⟨b, 0, none⟩) m c) (hi : ev l ix = .int k (i : Int)) (hlt : i < m) : Runs P ⟨od, .indexAddr T x ix, ty, pos, af, none⟩ l w (.pointer (some ⟨b, i * n, none⟩)) := by
  have := r_indexAddr (P := P) (T := T) (od := od) (ty := ty) (pos := pos) (af := af) (w := w) (e := e) hx hi hlt
  rwa [add_mk, Nat.zero_add] at this
end
end Go.Pv
