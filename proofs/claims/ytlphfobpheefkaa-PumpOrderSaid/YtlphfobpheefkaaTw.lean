/-
  What this text proves: two slices of the call's own, each in a block of its own, whose elements are laid as n cells each: appending to one leaves the other as it was. Over any program.
-/
import Derived.Test.YtlphfobpheefkaaGn
import Derived.Test.YtlphfobpheefkaaFam
set_option linter.unusedVariables false
set_option linter.unusedSimpArgs false

namespace Go.Pv
open Go.RowKit
theorem OwnR.lt {α : Type} {f : α → List Value} {n : Nat} {E : TypeId} {base : Nat} {w : World} {v : Value} {xs : List α} (h : OwnR f n E base w v xs) : ∀ k, v.ownBlock = some k → base ≤ k ∧ k < w.heap.size := h.2.lt
theorem OwnR.kept {α : Type} {f : α → List Value} {n : Nat} {E : TypeId} {base : Nat} {w w' : World} {v : Value} {xs : List α} {row : Option Nat} (h : OwnR f n E base w v xs) (hg : w.grownBy w' row) (hne : v.ownBlock = none ∨ v.ownBlock ≠ row) : OwnR f n E base w' v xs := ⟨h.1, h.2.kept hg hne⟩
/-- Two slices of the call's own, each in a block of its own. -/
def TwoR {α : Type} (f : α → List Value) (n : Nat) (E : TypeId) (base : Nat) (w : World) (a b : Value) (xs ys : List α) : Prop := OwnR f n E base w a xs ∧ OwnR f n E base w b ys ∧ ∀ k, a.ownBlock = some k → b.ownBlock ≠ some k
section
variable {α : Type} {f : α → List Value} {n : Nat} {E : TypeId} {base : Nat} {w w' : World} {a a' b b' : Value} {xs ys us : List α}
theorem TwoR.ex (e : Ex w w') (h : TwoR f n E base w a b xs ys) : TwoR f n E base w' a b xs ys := ⟨h.1.ex e, h.2.1.ex e, h.2.2⟩
theorem TwoR.nil (w : World) : TwoR f n E base w (.slice none 0 0) (.slice none 0 0) [] [] := ⟨OwnR.nil _ _ _, OwnR.nil _ _ _, fun k h => by cases h⟩
theorem TwoR.updA (h : TwoR f n E base w a b xs ys) (hg : w.grownBy w' a.ownBlock) (hown : OwnR f n E base w' a' us) (hbl : a'.ownBlock = a.ownBlock ∨ a'.ownBlock = some w.heap.size) : TwoR f n E base w' a' b us ys := by
  refine ⟨hown, h.2.1.kept hg ?_, fun k hk hb => ?_⟩
  · cases e : b.ownBlock with
    | none => exact .inl rfl
    | some k => exact .inr fun e2 => h.2.2 k e2.symm e
  · rcases hbl with hbl | hbl
    · exact h.2.2 k (by rw [← hbl]; exact hk) hb
    · have := (h.2.1.lt k hb).2
      rw [hbl] at hk; cases hk; omega
theorem TwoR.swap (h : TwoR f n E base w a b xs ys) : TwoR f n E base w b a ys xs := ⟨h.2.1, h.1, fun k h1 h2 => h.2.2 k h2 h1⟩
theorem TwoR.updB (h : TwoR f n E base w a b xs ys) (hg : w.grownBy w' b.ownBlock) (hown : OwnR f n E base w' b' us) (hbl : b'.ownBlock = b.ownBlock ∨ b'.ownBlock = some w.heap.size) : TwoR f n E base w' a b' xs us :=
  (h.swap.updA hg hown hbl).swap
end
section ops
variable {P : Program} {ol rest : List Oper} {Q : Exit → Act → World → Prop} {l : St} {w : World} {α : Type} {f : α → List Value} {n : Nat} {ty : TypeId} {pos : String} {af : Array Edge} {T : TypeId}
/-- append(s, v) onto one of the two. -/
theorem W_appendRF {d : Nat} {x y : Operand} {e : TypeId} {zs : Array Value} {bytes base b c : Nat} {v : Value} {xs : List α} {m : α} {w0 : World} (hf : ∀ x, (f x).length = n) (hn : 0 < n) [hT : Und P T (.slice e)] [hz : Sz P e (.agg zs) n bytes] (hzn : zs.size = n)
    (hx : ev l x = v) (hown : OwnR f n e base w v xs) (hy : ev l y = .slice (some ⟨b, 0, none⟩) 1 c) (hb : Bx w b (f m) e) (hone : (f m).all (fun u => u.oneCell') = true) (hlen : (xs.length + 1) * bytes ≤ 140737488355328 ∧ xs.length + 1 ≤ 9223372036854775807) (h0 : Ex w0 w) (hbase : w0.heap.size ≤ base) (hbase2 : base ≤ w.heap.size)
    (K : ∀ v' w', OwnR f n e base w' v' (xs ++ [m]) → Ex w0 w' → Below base w w' → w.grownBy w' v.ownBlock → (v'.ownBlock = v.ownBlock ∨ v'.ownBlock = some w.heap.size) → W P ol Q rest (upd l d v') w') :
    W P ol Q (⟨some d, .call { callee := .builtin .append, args := #[x, y], argTypes := #[T, T] }, ty, pos, af, none⟩ :: rest) l w := by
  obtain ⟨i, h1, h2, h3, h4⟩ := hz.parts
  have hlt := hown.lt
  have hml : xs.length + 1 ≤ maxLen := by unfold maxLen; omega
  unfold OwnR at hown
  have hcell : ∀ j u, (f m)[j]? = some u → w.cell? ((⟨b, 0, none⟩ : Addr).add j) = some u := fun j u hj => by have := Bx.cells hb; unfold Cells at this; exact this j u hj
  have hone' : ∀ u ∈ f m, u.oneCell' = true := by simpa using hone
  obtain ⟨v', w', hr, g1, g2, g3⟩ := run_append_own (P := P) w base T ty e i (.agg zs) n bytes hT.out h1 h2 h3 h4 (by simp [Value.cells, hzn]) hn v xs.length (xs.flatMap f) hown.2 ⟨b, 0, none⟩ 1 c (f m) (by simp [hf m]) hcell (by simpa using hone) hml hlen.1 hbase2
  have hbl := append_block (P := P) (w := w) hT.out h1 h2 h3 h4 hown.2 (by simp [hf m]) hcell hone' (by decide) hml hlen.1 hr
  refine W_run (w' := w') rfl rfl ?_ (K v' w' ⟨by simpa using hml, by simpa using g1⟩ (h0.of_grown g2 fun k hk => by have := hlt k hk; omega) ((Below.refl base w).grown g2 hbase2 fun k hk => (hlt k hk).1) g2 hbl)
  simp only [execOp, resolve, invoke, builtin, Sem.run_bind, Sem.run_pure, Result.andThen_ok, List.map_toArray, List.map_cons, List.map_nil, hx, hy, hr]
end ops
end Go.Pv
