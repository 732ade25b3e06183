/-
  What this text proves: several slices of the call's own at once, each in a block of its own: appending to one, storing into one. Over any program.
-/
import Derived.Test.YtbmjigneekodnaaR2
set_option linter.unusedVariables false
set_option linter.unusedSimpArgs false

namespace Go.Pv
open Go.RowKit
/-- Where the slice lies that an append gives: where it lay, or in a new block. -/
theorem append_block {P : Program} {w w' : World} {base : Nat} {t ty e : TypeId} {i : TypeInfo} {z : Value} {v v' : Value} {n m c : Nat} {xs news : List Value} {a : Addr} {size bytes : Nat} (ht : P.underlying t = some (.slice e)) (hi : P.info? e = some i) (hz : i.zero = some z) (hsize : i.size = size) (hby : i.bytes = bytes)
    (hown : w.ownsRow base e size v n xs) (hl : news.length = m * size) (hnews : ∀ j u, news[j]? = some u → w.cell? (a.add j) = some u) (h1 : ∀ u ∈ news, u.oneCell' = true) (hm : 0 < m)
    (h63 : n + m ≤ maxLen) (hbytes : (n + m) * bytes ≤ 140737488355328) (hr : (Builtin.append_ #[t, t] ty #[v, .slice (some a) m c]).run P w = .ok v' w') :
    v'.ownBlock = v.ownBlock ∨ v'.ownBlock = some w.heap.size := by
  subst hsize
  subst hby
  have hsmall : n + m ≤ 9223372036854775807 := by simp only [maxLen] at h63; omega
  rcases hown.2 with ⟨rfl, rfl⟩ | ⟨g, cap, cur, rfl, hbg, hg, hnc, hcm, hcs, htake⟩
  · have hb := hbytes
    simp only [Nat.zero_add] at hb
    have hr2 := run_append_nil (P := P) w t ty e i z ht hi hz a m c news hl hnews hm (by omega) (by omega)
    rw [hr] at hr2
    cases hr2
    exact .inr rfl
  · by_cases hroom : n + m ≤ cap
    · have hfit : n * i.size + news.length ≤ cur.size := by rw [hl, hcs, ← Nat.add_mul]; exact Nat.mul_le_mul_right _ hroom
      have hr2 := run_append_room (P := P) w t ty e i ht hi g n cap cur hg a m c news hl hnews h1 hroom hfit
      rw [hr] at hr2
      cases hr2
      exact .inl rfl
    · have hr2 := run_append_grow (P := P) w t ty e i z ht hi hz ⟨g, 0, none⟩ n cap xs hown.1 (hown.cells (g := g) rfl) a m c news hl hnews (by omega) (by omega) (growslice_fits (by omega) hbytes)
      rw [hr] at hr2
      cases hr2
      exact .inr rfl
theorem OwnV.lt {E : TypeId} {base : Nat} {w : World} {v : Value} {xs : List Value} (h : OwnV E base w v xs) : ∀ k, v.ownBlock = some k → base ≤ k ∧ k < w.heap.size := by
  unfold OwnV at h; exact h.2.lt
section
variable {P : Program} {Q : Exit → Act → World → Prop} {ol rest : List Oper} {l : St} {w : World} {ty : TypeId} {pos : String} {af : Array Edge}
end
/-- A slice of the call's own: the element's type, the slice, the cells. -/
abbrev Ent : Type := TypeId × Value × List Value
/-- Slices of the call's own, each in a block of its own. -/
def Fam (base : Nat) (w : World) (f : Nat → Ent) : Prop := (∀ i, OwnV (f i).1 base w (f i).2.1 (f i).2.2) ∧ ∀ i j k, i ≠ j → (f i).2.1.ownBlock = some k → (f j).2.1.ownBlock ≠ some k
theorem OwnV.keptB {E : TypeId} {base : Nat} {w w' : World} {v : Value} {xs : List Value} {row : Option Nat} (h : OwnV E base w v xs) (hg : w.grownBy w' row) (hne : v.ownBlock = none ∨ v.ownBlock ≠ row) : OwnV E base w' v xs := by
  unfold OwnV at h ⊢; exact ⟨h.1, h.2.kept hg hne⟩
theorem Fam.ex {base : Nat} {w w' : World} {f : Nat → Ent} (e : Ex w w') (h : Fam base w f) : Fam base w' f := ⟨fun i => (h.1 i).ex e, h.2⟩
theorem Fam.upd {base : Nat} {w w' : World} {f : Nat → Ent} (h : Fam base w f) (k : Nat) {E : TypeId} {v' : Value} {us : List Value} (hg : w.grownBy w' (f k).2.1.ownBlock) (hown : OwnV E base w' v' us)
    (hbl : v'.ownBlock = (f k).2.1.ownBlock ∨ v'.ownBlock = some w.heap.size) : Fam base w' (fun i => if i = k then (E, v', us) else f i) := by
  have key : ∀ j b, j ≠ k → v'.ownBlock = some b → (f j).2.1.ownBlock ≠ some b := by
    intro j b hj hv hf
    rcases hbl with e | e
    · exact h.2 k j b (Ne.symm hj) (e ▸ hv) hf
    · rw [e] at hv
      have := ((h.1 j).lt b hf).2
      simp at hv
      omega
  refine ⟨fun i => ?_, fun i j b hij hi hj => ?_⟩
  · by_cases e : i = k
    · simp only [e, if_true]; exact hown
    · simp only [e, if_false]
      refine (h.1 i).keptB hg ?_
      cases hb : (f i).2.1.ownBlock with
      | none => exact .inl rfl
      | some b => exact .inr fun e2 => h.2 i k b e hb e2.symm
  · by_cases e : i = k
    · have ej : j ≠ k := fun e2 => hij (e.trans e2.symm)
      simp only [e, if_true] at hi
      simp only [ej, if_false] at hj
      exact key j b ej hi hj
    · simp only [e, if_false] at hi
      by_cases ej : j = k
      · simp only [ej, if_true] at hj
        exact key i b e hj hi
      · simp only [ej, if_false] at hj
        exact h.2 i j b hij hi hj
def setF {α : Type} (f : Nat → α) (c : Nat) (a : α) : Nat → α := fun j => if j = c then a else f j
/-- Two slices of slices, a slice of numbers, and the inner slices. -/
def mkE (T1 T2 : TypeId) (x : Value) (xs : List Value) (r : Value) (rs : List Value) (o : Value) (O : List Int) (cv : Nat → Value) (C : Nat → List Int) (rv : Nat → Value) (R : Nat → List Int) : Nat → Ent
  | 0 => (T1, x, xs)
  | 1 => (T1, r, rs)
  | 2 => (T2, o, O.map (Value.int .i64))
  | i + 3 => if i % 2 = 0 then (T2, cv (i / 2), (C (i / 2)).map (Value.int .i64)) else (T2, rv (i / 2), (R (i / 2)).map (Value.int .i64))
section
variable {T1 T2 : TypeId} {x : Value} {xs : List Value} {r : Value} {rs : List Value} {o : Value} {O : List Int} {cv : Nat → Value} {C : Nat → List Int} {rv : Nat → Value} {R : Nat → List Int} {base : Nat} {w w' : World} {v' : Value} {us : List Value} {L : List Int}
theorem Fam.box {b : Nat} {a : Value} {T : TypeId} (_ : Fam base w (mkE T1 T2 x xs r rs o O cv C rv R)) (hb : Bx w b [a, x] T) : Bx w b [a, x] T := hb
theorem Fam.nil (base : Nat) (w : World) : Fam base w (mkE T1 T2 (.slice none 0 0) [] (.slice none 0 0) [] (.slice none 0 0) [] (fun _ => .slice none 0 0) (fun _ => []) (fun _ => .slice none 0 0) (fun _ => [])) := by
  refine ⟨fun i => ?_, fun i j k _ h => ?_⟩
  · match i with
    | 0 => exact OwnV.nil _ _ _
    | 1 => exact OwnV.nil _ _ _
    | 2 => exact OwnV.nil _ _ _
    | i + 3 => simp only [mkE]; split <;> exact OwnV.nil _ _ _
  · match i with
    | 0 => cases h
    | 1 => cases h
    | 2 => cases h
    | i + 3 => simp only [mkE] at h; split at h <;> cases h
end
end Go.Pv
