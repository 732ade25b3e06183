/-
  What this text proves: laws by which the operations of a translated function are walked, one law an operation, over any program. Nothing is assumed of any program here.
-/
import Derived.WalkKit
import Derived.ProofKit
import Derived.Deep.Quiet
import Derived.RangeFuncNested
import Derived.RangeFuncBound
import Derived.RangeFuncCalls
import Derived.RangeFuncLeaves
import Derived.RangeFuncFrom
import Derived.TacticsIn
import Derived.OrdersIn
namespace Go.Pv
open Go.RowKit

/-! ### Slots: how many, what they hold where nothing is known, what has been put into them (the last first) -/
structure St where
  n : Nat
  u : Nat → Value
  ps : List (Nat × Value)
  ds : List Nat
def look : List (Nat × Value) → (Nat → Value) → Nat → Value
  | [], u, t => u t
  | (d, v) :: r, u, t => bif Nat.beq d t then v else look r u t
def nth (s : St) (t : Nat) : Value := bif Nat.blt t s.n then look s.ps s.u t else undef
def upd (s : St) (d : Nat) (v : Value) : St := ⟨s.n, s.u, (d, v) :: s.ps, s.ds⟩
/-- The mark that a range over a function leaves among the deferred calls. -/
def mkD (D : Nat) : Deferred := { target := .collected D, args := #[] }
def act (s : St) : Act := { tmps := ((List.range s.n).map fun t => look s.ps s.u t).toArray, defers := s.ds.map mkD }
def ev (l : St) : Operand → Value
  | .tmp t => nth l t
  | .const v => v
  | .global g => .pointer (some ⟨g, 0, none⟩)
  | .func f => .func (.func f) #[] #[]
def evs (l : St) : List Operand → List Value
  | [] => []
  | x :: r => ev l x :: evs l r
theorem tmps_act (s : St) (t : Nat) : (act s).tmps[t]? = if t < s.n then some (look s.ps s.u t) else none := by
  simp only [act, List.getElem?_toArray, List.getElem?_map]
  by_cases h : t < s.n
  · simp [h]
  · simp [h]
theorem nth_def (s : St) (t : Nat) : nth s t = if t < s.n then look s.ps s.u t else undef := by
  unfold nth
  by_cases h : t < s.n
  · have : Nat.blt t s.n = true := by simpa [Nat.blt_eq] using h
    simp [h, this]
  · have : Nat.blt t s.n = false := by
      cases e : Nat.blt t s.n
      · rfl
      · exact absurd (by simpa [Nat.blt_eq] using e) h
    simp [h, this]
theorem nth_eq (s : St) (t : Nat) : (act s).tmps[t]?.getD undef = nth s t := by
  rw [tmps_act, nth_def]; split <;> rfl
theorem eval_act (l : St) : (act l).eval = ev l := by
  funext x
  cases x with
  | tmp t => simp only [Act.eval, ev, ← nth_eq, Array.getD_eq_getD_getElem?]
  | _ => rfl
theorem put_act (l : St) (d : Nat) (v : Value) : (act l).put (some d) v = act (upd l d v) := by
  have : (act l).tmps.setIfInBounds d v = (act (upd l d v)).tmps := by
    apply Array.ext_getElem?
    intro t
    rw [tmps_act, Array.getElem?_setIfInBounds, tmps_act]
    simp only [upd, look]
    by_cases h : d = t
    · subst h
      have : (act l).tmps.size = l.n := by simp [act]
      simp [this]
    · have h2 : Nat.beq d t = false := by
        cases e : Nat.beq d t
        · rfl
        · exact absurd (Nat.eq_of_beq_eq_true e) h
      simp [h, h2]
  simp only [Act.put, this]
  rfl
theorem put_none (l : St) (v : Value) : (act l).put none v = act l := rfl
theorem map_evs (l : St) (xs : List Operand) : xs.map (ev l) = evs l xs := by
  induction xs with
  | nil => rfl
  | cons x r ih => simp [evs, ih]
/-- What a list of slots says of a state. -/
def agree (l : St) : List (Nat × Value) → Prop
  | [] => True
  | (t, v) :: r => nth l t = v ∧ agree l r
theorem look_agree (l : St) (t : Nat) (ht : t < l.n) : ∀ ps, agree l ps → look ps (nth l) t = look l.ps l.u t
  | [], _ => by show nth l t = _; rw [nth_def, if_pos ht]
  | (d, v) :: r, h => by
    have hl : look ((d, v) :: r) (nth l) t = bif Nat.beq d t then v else look r (nth l) t := rfl
    rw [hl]
    cases e : Nat.beq d t
    · exact look_agree l t ht r h.2
    · have := Nat.eq_of_beq_eq_true e
      subst this
      show v = _
      rw [← h.1, nth_def, if_pos ht]
theorem act_agree (l : St) (ps : List (Nat × Value)) (h : agree l ps) : act l = act ⟨l.n, nth l, ps, l.ds⟩ := by
  unfold act
  simp only [Act.mk.injEq, and_true]
  congr 1
  apply List.map_congr_left
  intro t ht
  exact (look_agree l t (by simpa using ht) ps h).symm
def ini : List Value → Nat → List (Nat × Value)
  | [], _ => []
  | v :: r, k => (k, v) :: ini r (k + 1)
theorem look_ini : ∀ (vs : List Value) (k t : Nat), k ≤ t → look (ini vs k) (fun _ => undef) t = vs[t - k]?.getD undef
  | [], k, t, _ => by simp [ini, look]
  | v :: r, k, t, h => by
    simp only [ini, look]
    cases e : Nat.beq k t
    · have hne : k ≠ t := fun h2 => by subst h2; simp at e
      have h2 : t - k = (t - (k + 1)) + 1 := by omega
      rw [h2]
      simp only [List.getElem?_cons_succ, cond_false]
      exact look_ini r (k + 1) t (by omega)
    · have := Nat.eq_of_beq_eq_true e
      subst this
      simp
def dstAt : List Oper → Nat → Option Nat
  | [], _ => none
  | o :: _, 0 => o.dst
  | _ :: r, n + 1 => dstAt r n
theorem dstAt_eq (ol : List Oper) : ∀ j, (ol[j]?).bind (·.dst) = dstAt ol j := by
  induction ol with
  | nil => intro j; simp [dstAt]
  | cons o r ih => intro j; cases j with
    | zero => simp [dstAt]
    | succ j => simpa [dstAt] using ih j

/-! ### Worlds -/
/-- All that lay in w lies in w' as it lay. -/
def Ex (w w' : World) : Prop := Below w.heap.size w w'
theorem Ex.refl (w : World) : Ex w w := Below.refl _ _
theorem Ex.size {w w' : World} (h : Ex w w') : w.heap.size ≤ w'.heap.size := Below.size h
theorem Ex.trans {a b c : World} (h : Ex a b) (k : Ex b c) : Ex a c := Below.trans h (Below.mono k h.size)
theorem Ex.alloc (w : World) (o : Obj) : Ex w (w.alloc o) := (Below.refl _ _).alloc (Nat.le_refl _) _
theorem Ex.drew {a w : World} (h : Ex a w) : Ex a { w with drawn := w.drawn + 1 } := Below.drew h
theorem Ex.below {a w : World} (h : Ex a w) : Below a.heap.size a w := h
/-- From block base on w' is new; below it lies what lay in w. -/
theorem Ex.of_grown {w0 w w' : World} {row : Option Nat} (h : Ex w0 w) (hg : w.grownBy w' row) (hr : ∀ k, row = some k → w0.heap.size ≤ k) : Ex w0 w' :=
  Below.grown h hg h.size hr
/-- Block b holds these cells. -/
def Bx (w : World) (b : Nat) (c : List Value) (T : TypeId) : Prop := w.heap[b]? = some (.cells c.toArray T (0, 0))
theorem Bx.lt {w : World} {b : Nat} {c : List Value} {T : TypeId} (h : Bx w b c T) : b < w.heap.size := (Array.getElem?_eq_some_iff.1 h).1
theorem Bx.ne {w : World} {b x : Nat} {c : List Value} {T : TypeId} (h : Bx w b c T) (h2 : w.heap.size ≤ x) : b ≠ x := Nat.ne_of_lt (Nat.lt_of_lt_of_le (Bx.lt h) h2)
theorem Bx.ex {w w' : World} {b : Nat} {c : List Value} {T : TypeId} (e : Ex w w') (h : Bx w b c T) : Bx w' b c T := (e.block b h.lt).trans h
theorem Bx.cell {w : World} {b : Nat} {c : List Value} {T : TypeId} (h : Bx w b c T) (o : Nat) : w.cell? ⟨b, o, none⟩ = c[o]? := by
  unfold Bx at h; simp [World.cell?, h]
theorem Bx.frozen {w : World} {b : Nat} {c : List Value} {T : TypeId} (h : Bx w b c T) (o : Nat) : w.frozen? ⟨b, o, none⟩ = false := by
  unfold Bx at h; simp [World.frozen?, h]
theorem Bx.new (w : World) (c : List Value) (T : TypeId) : Bx (w.alloc (.cells c.toArray T)) w.heap.size c T := heap_alloc_new w _
theorem Bx.grown {w w' : World} {b : Nat} {c : List Value} {T : TypeId} {row : Option Nat} (h : Bx w b c T) (hg : w.grownBy w' row) (hne : some b ≠ row) : Bx w' b c T := (hg.block b h.lt hne).trans h

theorem _root_.Go.World.grownBy_refl' (w : World) (row : Option Nat) : w.grownBy w row := ⟨rfl, rfl, rfl, Nat.le_refl _, fun _ _ _ => rfl⟩
theorem _root_.Go.World.grownBy.trans' {a b c : World} {row : Option Nat} (h : a.grownBy b row) (k : b.grownBy c row) : a.grownBy c row :=
  ⟨k.os.trans h.os, k.tape.trans h.tape, k.output.trans h.output, Nat.le_trans h.size k.size, fun i hi hne => (k.block i (Nat.lt_of_lt_of_le hi h.size) hne).trans (h.block i hi hne)⟩
theorem add_mk (b o n : Nat) : (⟨b, o, none⟩ : Addr).add n = ⟨b, o + n, none⟩ := by
  unfold Addr.add; split
  · subst n; rfl
  · rfl
theorem add_spot {a : Addr} (h : a.spot = none) (n : Nat) : a.add n = ⟨a.block, a.off + n, none⟩ := by
  cases a; simp at h; subst h; exact add_mk _ _ _

/-! ### Slices that are read. R: what a cell stands for. -/
def Sl {α : Type} (R : World → Value → α → Prop) (w : World) (v : Value) (xs : List α) : Prop :=
  xs.length ≤ maxLen ∧ ∃ a cap, v = .slice a xs.length cap ∧ xs.length ≤ cap ∧ cap ≤ maxLen ∧ ∀ i (h : i < xs.length), ∃ p u, a = some p ∧ w.cell? (p.add i) = some u ∧ R w u xs[i]
def IntR (k : IntKind) (_ : World) (u : Value) (n : Int) : Prop := u = .int k n
def IntsK (k : IntKind) (w : World) (v : Value) (xs : List Int) : Prop := Sl (IntR k) w v xs
abbrev Ints : World → Value → List Int → Prop := IntsK .i64
def Intss (w : World) (v : Value) (xss : List (List Int)) : Prop := Sl Ints w v xss
def Stab {α : Type} (R : World → Value → α → Prop) : Prop := ∀ w w' v x, Ex w w' → R w v x → R w' v x
theorem cell_lt {w : World} {a : Addr} {u : Value} (h : w.cell? a = some u) : a.block < w.heap.size := World.block_lt_of_cell? w a h
theorem Bx.grownS {w w' : World} {b b' : Nat} {c : List Value} {T : TypeId} (hg : w.grownBy w' (some b)) (hne : b' ≠ b) (h : Bx w b' c T) : Bx w' b' c T := h.grown hg (by simp [hne])
theorem Bx.below {B : Nat} {w w' : World} {b : Nat} {c : List Value} {T : TypeId} (e : Below B w w') (hb : b < B) (h : Bx w b c T) : Bx w' b c T := (e.block b hb).trans h
theorem Ex.cell {w w' : World} (e : Ex w w') {a : Addr} {u : Value} (h : w.cell? a = some u) : w'.cell? a = some u := (Below.cell e (cell_lt h)).trans h
theorem Sl.stab {α : Type} {R : World → Value → α → Prop} (hR : Stab R) : Stab (Sl R) := by
  rintro w w' v xs e ⟨h0, a, cap, h1, h2, h3, h4⟩
  refine ⟨h0, a, cap, h1, h2, h3, fun i h => ?_⟩
  obtain ⟨p, u, h5, h6, h7⟩ := h4 i h
  exact ⟨p, u, h5, e.cell h6, hR _ _ _ _ e h7⟩
theorem IntR.stab (k : IntKind) : Stab (IntR k) := fun _ _ _ _ _ h => h
theorem Sl.one {α : Type} {R : World → Value → α → Prop} {w : World} {v : Value} {xs : List α} (h : Sl R w v xs) : v.oneCell' = true := by
  obtain ⟨_, a, cap, rfl, _⟩ := h; rfl
theorem IntsK.one {k : IntKind} {w : World} {v : Value} {xs : List Int} (h : IntsK k w v xs) : v.oneCell' = true := Sl.one h
theorem Intss.one {w : World} {v : Value} {xs : List (List Int)} (h : Intss w v xs) : v.oneCell' = true := Sl.one h
theorem IntsK.stab (k : IntKind) : Stab (IntsK k) := Sl.stab (IntR.stab k)
theorem Ints.stab : Stab Ints := IntsK.stab _
theorem Intss.stab : Stab Intss := Sl.stab Ints.stab
theorem IntsK.ex {k : IntKind} {w w' : World} {v : Value} {xs : List Int} (e : Ex w w') (h : IntsK k w v xs) : IntsK k w' v xs := IntsK.stab k _ _ _ _ e h
theorem Intss.ex {w w' : World} {v : Value} {xs : List (List Int)} (e : Ex w w') (h : Intss w v xs) : Intss w' v xs := Intss.stab _ _ _ _ e h
theorem IntsK.len {k : IntKind} {w : World} {v : Value} {xs : List Int} (h : IntsK k w v xs) : xs.length ≤ 9223372036854775807 := h.1
theorem Intss.len {w : World} {v : Value} {xs : List (List Int)} (h : Intss w v xs) : xs.length ≤ 9223372036854775807 := h.1
theorem IntsK.nil {k : IntKind} (w : World) (a : Option Addr) (cap : Nat) (h : cap ≤ maxLen) : IntsK k w (.slice a 0 cap) [] := ⟨Nat.zero_le _, a, cap, rfl, Nat.zero_le _, h, fun i hi => absurd hi (by simp)⟩

/-- The call's own slice of ints (the type's number E): from block base on. -/
def Own (E : TypeId) (base : Nat) (w : World) (v : Value) (xs : List Int) : Prop := xs.length ≤ maxLen ∧ w.ownsRow base E 1 v xs.length (xs.map (Value.int .i64))
theorem Own.nil (E : TypeId) (base : Nat) (w : World) : Own E base w (.slice none 0 0) [] := ⟨Nat.zero_le _, World.ownsRow_nil _ _ _ _⟩
theorem Own.kept {E : TypeId} {base : Nat} {w w' : World} {v : Value} {xs : List Int} {row : Option Nat} (h : Own E base w v xs) (hg : w.grownBy w' row) (hne : v.ownBlock = none ∨ v.ownBlock ≠ row) : Own E base w' v xs := ⟨h.1, h.2.kept hg hne⟩
theorem Ex.grownBy {w w' : World} (e : Ex w w') : w.grownBy w' none := ⟨e.os, e.tape, e.output, e.size, fun k hk _ => e.block k hk⟩
theorem Own.ex {E : TypeId} {base : Nat} {w w' : World} {v : Value} {xs : List Int} (e : Ex w w') (h : Own E base w v xs) : Own E base w' v xs :=
  h.kept e.grownBy (by cases v.ownBlock <;> simp)
theorem Own.mono {E : TypeId} {base base' : Nat} {w : World} {v : Value} {xs : List Int} (h : Own E base w v xs) (hb : base' ≤ base) : Own E base' w v xs := by
  obtain ⟨h0, h1, h2⟩ := h
  refine ⟨h0, h1, ?_⟩
  rcases h2 with h2 | ⟨g, cap, cur, h3, h4, h5⟩
  · exact .inl h2
  · exact .inr ⟨g, cap, cur, h3, Nat.le_trans hb h4, h5⟩
theorem Own.ints {E : TypeId} {base : Nat} {w : World} {v : Value} {xs : List Int} (h : Own E base w v xs) : Ints w v xs := by
  obtain ⟨h0, h1, h2⟩ := h
  rcases h2 with ⟨rfl, h2⟩ | ⟨g, cap, cur, rfl, hb, hh, hn, hm, hs, ht⟩
  · have : xs = [] := by cases xs <;> simp_all
    subst this
    exact IntsK.nil _ _ _ (Nat.zero_le _)
  · refine ⟨h0, some ⟨g, 0, none⟩, cap, rfl, hn, hm, fun i hi => ⟨⟨g, 0, none⟩, .int .i64 xs[i], rfl, ?_, rfl⟩⟩
    rw [add_mk]
    simp only [World.cell?, hh, Nat.zero_add]
    have e : (xs.map (Value.int .i64))[i]? = some (.int .i64 xs[i]) := by simp [hi]
    rw [← ht, List.getElem?_take] at e
    split at e
    · simpa using e
    · cases e
theorem Own.block {E : TypeId} {base : Nat} {w : World} {v : Value} {xs : List Int} (h : Own E base w v xs) : ∀ k, v.ownBlock = some k → base ≤ k ∧ k < w.heap.size := h.2.lt

/-! ### Slices of pairs of ints -/
def Cells (w : World) (a : Addr) (c : List Value) : Prop := ∀ j v, c[j]? = some v → w.cell? (a.add j) = some v
def pc (x : Int × Int) : List Value := [.int .i64 x.1, .int .i64 x.2]
def Prs (w : World) (v : Value) (xs : List (Int × Int)) : Prop :=
  xs.length ≤ maxLen ∧ ∃ a cap, v = .slice a xs.length cap ∧ xs.length ≤ cap ∧ cap ≤ maxLen ∧ ∀ i (h : i < xs.length), ∃ p, a = some p ∧ Cells w (p.add (i * 2)) (pc xs[i])
theorem Cells.ex {w w' : World} {a : Addr} {c : List Value} (e : Ex w w') (h : Cells w a c) : Cells w' a c := fun j v hj => e.cell (h j v hj)
theorem Prs.ex {w w' : World} {v : Value} {xs : List (Int × Int)} (e : Ex w w') (h : Prs w v xs) : Prs w' v xs := by
  obtain ⟨h0, a, cap, h1, h2, h3, h4⟩ := h
  refine ⟨h0, a, cap, h1, h2, h3, fun i h => ?_⟩
  obtain ⟨p, h5, h6⟩ := h4 i h
  exact ⟨p, h5, h6.ex e⟩
theorem Prs.len {w : World} {v : Value} {xs : List (Int × Int)} (h : Prs w v xs) : xs.length ≤ 9223372036854775807 := h.1
theorem Prs.one {w : World} {v : Value} {xs : List (Int × Int)} (h : Prs w v xs) : v.oneCell' = true := by
  obtain ⟨_, a, cap, rfl, _⟩ := h; rfl
def OwnP (E : TypeId) (base : Nat) (w : World) (v : Value) (xs : List (Int × Int)) : Prop := xs.length ≤ maxLen ∧ w.ownsRow base E 2 v xs.length (xs.flatMap pc)
theorem OwnP.mono {E : TypeId} {base base' : Nat} {w : World} {v : Value} {xs : List (Int × Int)} (h : OwnP E base w v xs) (hb : base' ≤ base) : OwnP E base' w v xs := by
  obtain ⟨h0, h1, h2⟩ := h
  refine ⟨h0, h1, ?_⟩
  rcases h2 with h2 | ⟨g, cap, cur, h3, h4, h5⟩
  · exact .inl h2
  · exact .inr ⟨g, cap, cur, h3, Nat.le_trans hb h4, h5⟩
theorem OwnP.nil (E : TypeId) (base : Nat) (w : World) : OwnP E base w (.slice none 0 0) [] := ⟨Nat.zero_le _, World.ownsRow_nil _ _ _ _⟩
theorem OwnP.ex {E : TypeId} {base : Nat} {w w' : World} {v : Value} {xs : List (Int × Int)} (e : Ex w w') (h : OwnP E base w v xs) : OwnP E base w' v xs :=
  ⟨h.1, h.2.kept e.grownBy (by cases v.ownBlock <;> simp)⟩
theorem OwnP.grownS {E : TypeId} {base b : Nat} {w w' : World} {v : Value} {xs : List (Int × Int)} (hg : w.grownBy w' (some b)) (hb : b < base) (h : OwnP E base w v xs) : OwnP E base w' v xs :=
  ⟨h.1, h.2.kept hg (by
    cases e : v.ownBlock with
    | none => exact .inl rfl
    | some k => right; have := (h.2.lt k e).1; simp; omega)⟩
theorem Own.grownS {E : TypeId} {base b : Nat} {w w' : World} {v : Value} {xs : List Int} (hg : w.grownBy w' (some b)) (hb : b < base) (h : Own E base w v xs) : Own E base w' v xs :=
  ⟨h.1, h.2.kept hg (by
    cases e : v.ownBlock with
    | none => exact .inl rfl
    | some k => right; have := (h.2.lt k e).1; simp; omega)⟩
theorem OwnP.one {E : TypeId} {base : Nat} {w : World} {v : Value} {xs : List (Int × Int)} (h : OwnP E base w v xs) : v.oneCell' = true := by
  rcases h.2.2 with ⟨rfl, _⟩ | ⟨g, cap, cur, rfl, _⟩ <;> rfl
theorem Own.one {E : TypeId} {base : Nat} {w : World} {v : Value} {xs : List Int} (h : Own E base w v xs) : v.oneCell' = true := by
  rcases h.2.2 with ⟨rfl, _⟩ | ⟨g, cap, cur, rfl, _⟩ <;> rfl
theorem pc_flat_get : ∀ (xs : List (Int × Int)) (i : Nat) (h : i < xs.length) (j : Nat) (v : Value), (pc xs[i])[j]? = some v → (xs.flatMap pc)[i * 2 + j]? = some v
  | [], i, h, _, _, _ => by simp at h
  | x :: r, 0, h, j, v, hv => by
    simp only [List.getElem_cons_zero] at hv
    have hj : j < 2 := by
      rcases Nat.lt_or_ge j 2 with h' | h'
      · exact h'
      · rw [List.getElem?_eq_none (by simpa [pc] using h')] at hv; cases hv
    simp only [List.flatMap_cons, Nat.zero_mul, Nat.zero_add]
    rw [List.getElem?_append_left (by simpa [pc] using hj)]
    exact hv
  | x :: r, i + 1, h, j, v, hv => by
    have := pc_flat_get r i (by simpa using h) j v (by simpa using hv)
    simp only [List.flatMap_cons]
    rw [List.getElem?_append_right (by simp [pc]; omega)]
    have e : (i + 1) * 2 + j - (pc x).length = i * 2 + j := by simp [pc]; omega
    rw [e]; exact this
theorem OwnP.prs {E : TypeId} {base : Nat} {w : World} {v : Value} {xs : List (Int × Int)} (h : OwnP E base w v xs) : Prs w v xs := by
  obtain ⟨h0, h1, h2⟩ := h
  rcases h2 with ⟨rfl, h2⟩ | ⟨g, cap, cur, rfl, hb, hh, hn, hm, hs, ht⟩
  · have : xs = [] := by cases xs <;> simp_all
    subst this
    exact ⟨h0, none, 0, rfl, Nat.zero_le _, Nat.zero_le _, fun i hi => absurd hi (by simp)⟩
  · refine ⟨h0, some ⟨g, 0, none⟩, cap, rfl, hn, hm, fun i hi => ⟨⟨g, 0, none⟩, rfl, fun j u hj => ?_⟩⟩
    rw [add_mk, add_mk]
    have e := pc_flat_get xs i hi j u hj
    rw [← ht, List.getElem?_take] at e
    split at e
    · simp only [World.cell?, hh, Nat.zero_add]; simpa using e
    · cases e

/-! ### The walk's own words -/
/-- Where the code stands: in an activation (none), or in a round of loop i. -/
def Fr : Option Nat → Fence
  | none => Fence.wide
  | some i => Fence.wide.inRound i
theorem Fr.fn (ρ : Option Nat) (f : FuncId) : (Fr ρ).fn f := by cases ρ <;> exact trivial
theorem Fr.depth (ρ : Option Nat) : (Fr ρ).depth = none := by cases ρ <;> rfl
theorem Fr.calls {ρ : Option Nat} {n : Nat} {P : Program} {f : FuncId} {args : Array Value} {w : World} {R : Ending → World → Prop} (h : Calls P f args w R) : CallsIn (Fr ρ) n P f args w R := by
  cases ρ with
  | none => exact callsIn_wide.2 h
  | some i => exact CallsIn.inRound i (callsIn_wide.2 h)
theorem Fr.rows {ρ : Option Nat} {n : Nat} {P : Program} {row : _} {args : _} {w : World} {R : Value → World → Prop} (h : Rows P row args w R) : RowsIn (Fr ρ) n P row args w R := by
  intro c cs _
  obtain ⟨v, w', h1, h2⟩ := h c cs
  refine ⟨v, w', h1, ?_⟩
  cases ρ with
  | none => exact stepsIn_wide.2 h2
  | some i => exact stepsIn_wide.2 h2
theorem Fr.any {ρ : Option Nat} {n m : Nat} {P : Program} {c : Code} {Q : Exit → Act → World → Prop} {a : Act} {w : World} (h : c.wpIn (Fr ρ) n P Q a w) : c.wpIn (Fr ρ) m P Q a w :=
  fun b k cs hro hb _ => h b k cs hro hb (by cases ρ <;> exact room_wide _)
def C (ρ : Option Nat) (P : Program) (c : Code) (Q : Exit → Act → World → Prop) (l : St) (w : World) : Prop := c.wpIn (Fr ρ) 1 P Q (act l) w
/-- A region is left normally. -/
def NQ (Q : Exit → Act → World → Prop) (e : Exit) (a : Act) (w : World) : Prop := e = .normal ∧ Q .normal a w
theorem n_nq {Q : Exit → Act → World → Prop} {a : Act} {w : World} (h : Q .normal a w) : NQ Q .normal a w := ⟨rfl, h⟩
def nodef (ol : List Oper) : Bool := ol.all fun o => match o.op with
  | .defer _ => false
  | _ => true
theorem nodef_ok {ol : List Oper} (h : nodef ol = true) : ∀ o ∈ ol, ∀ c, o.op ≠ .defer c := by
  intro o ho c e
  have := List.all_eq_true.1 h o ho
  rw [e] at this
  cases this
/-- One operation in a round. -/
theorem op_in {ρ : Option Nat} {n : Nat} {P : Program} {o : Oper} {K K' : Act → World → Prop} {Q Q' : Exit → Act → World → Prop} {a : Act} {w : World} (hnd : ∀ c, o.op ≠ .defer c) (hk : ∀ a w, K a w → K' a w)
    (hq : ∀ e a w, Q e a w → Q' e a w) (hout : ∀ a w, ¬ Q .outgrown a w) (h : o.wp P a w K Q) : o.wpIn (Fr ρ) n P a w K' Q' := by
  refine ⟨fun f _ => Fr.fn ρ f, ?_⟩
  rw [Oper.semAt_eq _ _ _ hnd]
  unfold Oper.wp at h
  unfold Oper.upon at h
  unfold Oper.uponIn
  split at h
  · next v w' hr => simp only [hr]; exact hk _ _ h
  · next w' hr => simp only [hr]; exact hk _ _ h
  · next d w' hr => simp only [hr]; exact hk _ _ h
  · next f args w' hr =>
    simp only [hr]
    refine ⟨(fun h => by rw [Fr.depth] at h; cases h), Fr.calls (Calls.mono h ?_)⟩
    rintro e w'' he
    cases e with
    | returned v => exact hk _ _ he
    | panicked ch => exact hq _ _ _ he
    | outgrown => obtain ⟨a1, w1, h1⟩ := he; exact absurd h1 (hout _ _)
  · next row args w' hr =>
    simp only [hr]
    exact ⟨(fun h => by rw [Fr.depth] at h; cases h), Fr.rows (Rows.mono h fun v w'' he => hk _ _ he)⟩
  · next v w' hr => simp only [hr]; exact hq _ _ _ h
  · exact h.elim
/-- A region's operations in a round. -/
theorem list_in {ρ : Option Nat} {n : Nat} {P : Program} {ops : Array Oper} {Q Q' : Exit → Act → World → Prop} (hq : ∀ e a w, Q e a w → Q' e a w) (hout : ∀ a w, ¬ Q .outgrown a w) :
    ∀ (rest : List Oper) (a : Act) (w : World), (∀ o ∈ rest, ∀ c, o.op ≠ .defer c) → wpList P ops Q rest a w → wpListIn (Fr ρ) n P ops Q' rest a w
  | [], a, w, _, h => hq _ _ _ h
  | o :: rest, a, w, hnd, h => by
    have ih := fun a w => list_in (ρ := ρ) (P := P) (n := n) (ops := ops) hq hout rest a w (fun o ho => hnd o (List.mem_cons_of_mem _ ho))
    simp only [wpList] at h
    simp only [wpListIn]
    by_cases hw : Region.wanted o (yielded ops a.tmps) = true
    · rw [if_pos hw] at h
      rw [if_pos hw]
      rcases h with h | ⟨_, a', w', h⟩
      · exact op_in (hnd o (List.mem_cons_self ..)) ih hq hout h
      · exact absurd h (hout _ _)
    · rw [if_neg hw] at h
      rw [if_neg hw]
      exact ⟨fun f _ => Fr.fn ρ f, ih _ _ h⟩
/-- A region's operations, in any order, in a round. -/
theorem any_in {ρ : Option Nat} {n : Nat} {P : Program} {md : Region.Mode} {ops : Array Oper} {Q Q' : Exit → Act → World → Prop} (hnd : ∀ (j : Nat) (o : Oper), ops[j]? = some o → ∀ c, o.op ≠ .defer c) (hq : ∀ e a w, Q e a w → Q' e a w) (hout : ∀ a w, ¬ Q .outgrown a w) :
    ∀ (k : Nat) (listed : Array Bool) (a : Act) (w : World), wpAny P md ops Q k listed a w → wpAnyIn (Fr ρ) n P md ops Q' k listed a w
  | 0, listed, a, w, h => ⟨h.1, hq _ _ _ h.2⟩
  | k + 1, listed, a, w, h => by
    refine ⟨fun hr => hq _ _ _ (h.1 hr), fun i hi => ?_⟩
    have h2 := h.2 i hi
    unfold wpOp at h2
    unfold wpOpIn
    split
    · rename_i ho; simp only [ho] at h2; exact any_in hnd hq hout k _ _ _ h2
    · rename_i o ho
      simp only [ho] at h2
      by_cases hw : Region.wanted o (yielded ops a.tmps) = true
      · rw [if_pos hw] at h2 ⊢
        rcases h2 with h2 | ⟨_, a', w', h2⟩
        · exact op_in (hnd i o ho) (fun a w h => any_in hnd hq hout k _ _ _ h) hq hout h2
        · exact absurd h2 (hout _ _)
      · rw [if_neg hw] at h2 ⊢
        exact ⟨fun f _ => Fr.fn ρ f, any_in hnd hq hout k _ _ _ h2⟩
theorem nodef_get {ops : Array Oper} (h : nodef ops.toList = true) : ∀ (j : Nat) (o : Oper), ops[j]? = some o → ∀ c, o.op ≠ .defer c := fun j o ho => nodef_ok h o (List.mem_of_getElem? (i := j) (by simpa using ho))
/-- A region that draws its order, in a round. -/
theorem region_in {ρ : Option Nat} {P : Program} {id : Nat} {ops : Array Oper} {Q : Exit → Act → World → Prop} {a : Act} {w : World} (hm : P.follows .mixedOrders = true) (hnd : nodef ops.toList = true)
    (h : wpAny P .any ops (NQ Q) ops.size (Array.replicate ops.size false) a { w with drawn := w.drawn + 1 }) : (Code.region id ops true).wpIn (Fr ρ) 1 P Q a w :=
  wpIn_region_any hm (any_in (nodef_get hnd) (fun e a w h => by obtain ⟨rfl, h⟩ := h; exact h) (fun a w h => by cases h.1) _ _ _ _ h)
theorem seq_in {ρ : Option Nat} {P : Program} {x y : Code} {Q : Exit → Act → World → Prop} {a : Act} {w : World} (h : x.wpIn (Fr ρ) 1 P (Exit.then (y.wpIn (Fr ρ) 1 P Q) Q) a w) : (Code.seq x y).wpIn (Fr ρ) 1 P Q a w := wpIn_seq h
def W (P : Program) (ol : List Oper) (Q : Exit → Act → World → Prop) (rest : List Oper) (l : St) (w : World) : Prop := wpList P ol.toArray Q rest (act l) w
/-- Run in the state l and the world w the operation yields v and leaves the world alone. -/
def Runs (P : Program) (o : Oper) (l : St) (w : World) (v : Value) : Prop := (execOp (ev l) o).run P w = .ok (.value v) w
/-- A region that draws its order: its operations in the text's order. -/
def WQ (P : Program) (K : World → Prop) (ol : List Oper) (Q : Act → Prop) (rest : List Oper) (l : St) : Prop := wpQuiet P ol.toArray K Q rest (act l)
/-- What a call of function f leaves: its value, and a world in which all that lay still lies. -/
def Ret (P : Program) (f : FuncId) (vs : List Value) (w : World) (φ : Value → World → Prop) : Prop :=
  Calls P f vs.toArray w fun e w' => ∃ v, e = .returned v ∧ φ v w' ∧ Ex w w'

theorem least {p : Nat → Prop} (h : ∃ n, p n) : ∃ n, p n ∧ ∀ m, p m → n ≤ m := by
  obtain ⟨n, hn⟩ := h
  induction n using Nat.strongRecOn with
  | _ n ih =>
    by_cases h : ∃ m, m < n ∧ p m
    · obtain ⟨m, h1, h2⟩ := h
      exact ih m h1 h2
    · exact ⟨n, hn, fun m hm => Nat.le_of_not_lt fun hlt => h ⟨m, hlt, hm⟩⟩
open Classical in
/-- The least number of a kind. -/
noncomputable def sInf' (p : Nat → Prop) : Nat := if h : ∃ n, p n then Classical.choose (least h) else 0
theorem sInf'_spec {p : Nat → Prop} (h : ∃ n, p n) : p (sInf' p) ∧ ∀ m, p m → sInf' p ≤ m := by
  unfold sInf'
  rw [dif_pos h]
  exact Classical.choose_spec (least h)
theorem sInf'_mem {p : Nat → Prop} (h : ∃ n, p n) : p (sInf' p) := (sInf'_spec h).1
theorem sInf'_le {p : Nat → Prop} {n : Nat} (h : p n) : sInf' p ≤ n := (sInf'_spec ⟨n, h⟩).2 n h

class Mixed (P : Program) : Prop where
  out : P.follows .mixedOrders = true
section control
variable {ρ : Option Nat} {P : Program} {Q : Exit → Act → World → Prop} {l : St} {w : World} {x y c : Code}
theorem c_seq (h : C ρ P x (Exit.then (y.wpIn (Fr ρ) 1 P Q) Q) l w) : C ρ P (.seq x y) Q l w := wpIn_seq h
theorem c_skip (h : Q .normal (act l) w) : C ρ P .skip Q l w := wpIn_skip h
theorem c_ret (h : Q .ret (act l) w) : C ρ P .ret Q l w := wpIn_ret h
theorem c_exit {id : Nat} (h : Q (.exit id) (act l) w) : C ρ P (.exit id) Q l w := wpIn_exit h
theorem c_label {n : Nat} (h : Q .normal (act l) w) : C ρ P (.label n) Q l w := wpIn_label h
theorem c_block {id : Nat} (h : C ρ P c (Exit.inBlock id Q) l w) : C ρ P (.block id c) Q l w := wpIn_block h
theorem c_scope (h : C none P c (Exit.noGoto Q) l w) : C none P (.scope c) Q l w := wpIn_wide.2 (wp_scope_straight (wpIn_wide.1 h))
theorem c_region {id : Nat} {ol : List Oper} (hnd : nodef ol = true) (h : W P ol (NQ Q) ol l w) : C ρ P (.region id ol.toArray false) Q l w :=
  wpIn_region_lit (list_in (fun e a w h => by obtain ⟨rfl, h⟩ := h; exact h) (fun a w h => by cases h.1) ol _ w (nodef_ok hnd) h)
theorem c_cond_true {o : Operand} (hc : ev l o = .bool true) (h : C ρ P x Q l w) : C ρ P (.cond o x y) Q l w := wpIn_cond_true (by rw [eval_act]; exact hc) h
theorem c_cond_false {o : Operand} (hc : ev l o = .bool false) (h : C ρ P y Q l w) : C ρ P (.cond o x y) Q l w := wpIn_cond_false (by rw [eval_act]; exact hc) h
theorem c_cond_dec {o : Operand} {p : Prop} {_ : Decidable p} (hc : ev l o = .bool (decide p)) (ht : p → C ρ P x Q l w) (hf : ¬ p → C ρ P y Q l w) : C ρ P (.cond o x y) Q l w :=
  wpIn_cond_split (by rw [eval_act]; exact hc) (fun h => ht (of_decide_eq_true h)) (fun h => hf (of_decide_eq_false h))
theorem c_cond_bool {o : Operand} {b : Bool} (hc : ev l o = .bool b) (ht : b = true → C ρ P x Q l w) (hf : b = false → C ρ P y Q l w) : C ρ P (.cond o x y) Q l w :=
  wpIn_cond_split (by rw [eval_act]; exact hc) ht hf
theorem c_quiet {id : Nat} {ol : List Oper} [hm : Mixed P] (hB : (Region.lexB .any ol.toArray && nodef ol) = true)
    (h : WQ P (Ex w) ol (fun a' => ∀ w', Ex w w' → Q .normal a' w') ol l) : C ρ P (.region id ol.toArray true) Q l w := by
  simp only [Bool.and_eq_true] at hB
  obtain ⟨hB, hnd⟩ := hB
  simp only [Region.lexB, Bool.and_eq_true] at hB
  refine region_in hm.out (by simpa using hnd) (wpAny_of_quiet (C := Ex w) (Q := fun a' => ∀ w', Ex w w' → Q .normal a' w') (fun _ w' hw' h => ⟨rfl, h w' hw'⟩) _ _ _ _ (Ex.refl w).drew ?_)
  have := wpAnyQ_lex (C := Ex w) (md := .any) hB.1 ol 0 (Array.replicate ol.toArray.size false) (act l) (by simp) (by simpa using hB.2) h
  simpa using this
theorem c_mono {Q' : Exit → Act → World → Prop} (h : C ρ P c Q l w) (hq : ∀ e a w, Q e a w → Q' e a w) : C ρ P c Q' l w := wpIn_mono h hq
theorem n_then {K : Exit → Act → World → Prop} (h : C ρ P y K l w) : Exit.then (y.wpIn (Fr ρ) 1 P K) Q .normal (act l) w := h
theorem n_next {next : Act → World → Prop} (h : next (act l) w) : Exit.then next Q .normal (act l) w := h
theorem n_block {id : Nat} (h : Q .normal (act l) w) : Exit.inBlock id Q .normal (act l) w := h
theorem n_scope (h : Q .normal (act l) w) : Exit.noGoto Q .normal (act l) w := h
theorem e_then {next : Act → World → Prop} {id : Nat} {a : Act} (h : Q (.exit id) a w) : Exit.then next Q (.exit id) a w := h
theorem e_block {id : Nat} {a : Act} (h : Q .normal a w) : Exit.inBlock id Q (.exit id) a w := by simpa [Exit.inBlock] using h
theorem e_block' {id id' : Nat} {a : Act} (hne : id' ≠ id) (h : Q (.exit id') a w) : Exit.inBlock id Q (.exit id') a w := by simpa [Exit.inBlock, hne] using h
theorem e_scope {id : Nat} {a : Act} (h : Q (.exit id) a w) : Exit.noGoto Q (.exit id) a w := h
theorem r_then {next : Act → World → Prop} {a : Act} (h : Q .ret a w) : Exit.then next Q .ret a w := h
theorem r_block {id : Nat} {a : Act} (h : Q .ret a w) : Exit.inBlock id Q .ret a w := h
theorem r_scope {a : Act} (h : Q .ret a w) : Exit.noGoto Q .ret a w := h
/-- A loop with a ghost: what holds at the head of every round, for some ghost whose measure falls. -/
def fin (l : St) : Nat × List Nat := (l.n, l.ds)
theorem fin_act {l' : St} {n : Nat} {ds : List Nat} {ps : List (Nat × Value)} (ha : agree l' ps) (hn : fin l' = (n, ds)) : act l' = act ⟨n, nth l', ps, ds⟩ := by
  unfold fin at hn
  cases hn
  exact act_agree l' ps ha
theorem c_loopG {γ : Type} {n : Nat} {ds : List Nat} (I : γ → List (Nat × Value) → World → Prop) (μ : γ → Nat) (g₀ : γ) (ps₀ : List (Nat × Value)) (h₀ : I g₀ ps₀ w) (a₀ : agree l ps₀) (hn : l.n = n) (hd : l.ds = ds)
    (round : ∀ J : γ → St → World → Prop, (∀ g l' w ps, I g ps w → agree l' ps → fin l' = (n, ds) → J g l' w) → ∀ g u ps w, I g ps w → C ρ P c (Exit.then (fun a' w' => ∃ g' l', a' = act l' ∧ J g' l' w' ∧ μ g' < μ g) Q) ⟨n, u, ps, ds⟩ w) : C ρ P (.loop c) Q l w := by
  subst hn
  subst hd
  refine wpIn_loop (fun a w => ∃ g u ps, a = act ⟨l.n, u, ps, l.ds⟩ ∧ I g ps w) (fun a w => sInf' fun n => ∃ g u ps, a = act ⟨l.n, u, ps, l.ds⟩ ∧ I g ps w ∧ μ g = n) ⟨g₀, _, ps₀, act_agree l ps₀ a₀, h₀⟩ ?_
  rintro a w ⟨g, u, ps, rfl, hI⟩
  obtain ⟨g1, u1, ps1, e1, h1, h2⟩ := sInf'_mem (p := fun n => ∃ g u' ps', act ⟨l.n, u, ps, l.ds⟩ = act ⟨l.n, u', ps', l.ds⟩ ∧ I g ps' w ∧ μ g = n) ⟨μ g, g, u, ps, rfl, hI, rfl⟩
  have hround := round (fun g l' w => ∃ u ps, act l' = act ⟨l.n, u, ps, l.ds⟩ ∧ I g ps w) (fun g l' w ps hi ha hn => ⟨_, ps, fin_act ha hn, hi⟩) g1 u1 ps1 w h1
  unfold C at hround
  rw [← e1] at hround
  refine wpIn_mono hround ?_
  intro e a' w' h
  cases e <;> first
    | exact h
    | (obtain ⟨g', l', rfl, ⟨u', ps', h3, h3'⟩, h4⟩ := h
       refine ⟨⟨g', u', ps', h3, h3'⟩, Nat.lt_of_le_of_lt (sInf'_le ⟨g', u', ps', h3, h3', rfl⟩) ?_⟩
       rw [← h2]; exact h4)
/-- The blocks of these marks lie, with no deferred call in them. -/
def Al (B : Nat) (w : World) (ds : List Nat) : Prop := ds.Nodup ∧ ∀ D ∈ ds, B ≤ D ∧ w.heap[D]? = some (.deferred (some []))
theorem Al.nil (B : Nat) (w : World) : Al B w [] := ⟨List.nodup_nil, fun D h => by cases h⟩
/-- A loop in whose rounds marks come up. -/
theorem c_loopM {γ : Type} {n : Nat} (B : Nat) (I : γ → List (Nat × Value) → World → Prop) (μ : γ → Nat) (g₀ : γ) (ps₀ : List (Nat × Value)) (h₀ : I g₀ ps₀ w) (a₀ : agree l ps₀) (hn : l.n = n) (hd : Al B w l.ds)
    (round : ∀ J : γ → St → World → Prop, (∀ g l' w ps, I g ps w → agree l' ps → l'.n = n → Al B w l'.ds → J g l' w) → ∀ g u ps w ds, I g ps w → Al B w ds → C ρ P c (Exit.then (fun a' w' => ∃ g' l', a' = act l' ∧ J g' l' w' ∧ μ g' < μ g) Q) ⟨n, u, ps, ds⟩ w) : C ρ P (.loop c) Q l w := by
  subst hn
  refine wpIn_loop (fun a w => ∃ g u ps ds, a = act ⟨l.n, u, ps, ds⟩ ∧ I g ps w ∧ Al B w ds) (fun a w => sInf' fun n => ∃ g u ps ds, a = act ⟨l.n, u, ps, ds⟩ ∧ I g ps w ∧ Al B w ds ∧ μ g = n) ⟨g₀, _, ps₀, _, act_agree l ps₀ a₀, h₀, hd⟩ ?_
  rintro a w ⟨g, u, ps, ds, rfl, hI, hA⟩
  obtain ⟨g1, u1, ps1, ds1, e1, h1, h1a, h2⟩ := sInf'_mem (p := fun n => ∃ g u' ps' ds', act ⟨l.n, u, ps, ds⟩ = act ⟨l.n, u', ps', ds'⟩ ∧ I g ps' w ∧ Al B w ds' ∧ μ g = n) ⟨μ g, g, u, ps, ds, rfl, hI, hA, rfl⟩
  have hround := round (fun g l' w => ∃ u ps ds, act l' = act ⟨l.n, u, ps, ds⟩ ∧ I g ps w ∧ Al B w ds) (fun g l' w ps hi ha hn hd => ⟨_, ps, l'.ds, by rw [act_agree l' ps ha, hn], hi, hd⟩) g1 u1 ps1 w ds1 h1 h1a
  unfold C at hround
  rw [← e1] at hround
  refine wpIn_mono hround ?_
  intro e a' w' h
  cases e <;> first
    | exact h
    | (obtain ⟨g', l', rfl, ⟨u', ps', ds', h3, h3', h3''⟩, h4⟩ := h
       refine ⟨⟨g', u', ps', ds', h3, h3', h3''⟩, Nat.lt_of_le_of_lt (sInf'_le ⟨g', u', ps', ds', h3, h3', h3'', rfl⟩) ?_⟩
       rw [← h2]; exact h4)
theorem n_roundG {γ : Type} {J : γ → St → World → Prop} {μ : γ → Nat} {g₀ : γ} (g : γ) (h : J g l w) (hm : μ g < μ g₀) :
    Exit.then (fun a' w' => ∃ g' l', a' = act l' ∧ J g' l' w' ∧ μ g' < μ g₀) Q .normal (act l) w := ⟨g, l, rfl, h, hm⟩
/-- What a piece of code is left with, said once. -/
theorem c_cut (M : St → World → Prop) (h : C ρ P x (Exit.then (fun a' w' => ∃ l', a' = act l' ∧ M l' w') Q) l w) (k : ∀ l' w', M l' w' → C ρ P y Q l' w') : C ρ P (.seq x y) Q l w := by
  refine wpIn_seq (wpIn_mono h ?_)
  intro e a' w' h
  cases e <;> first
    | exact h
    | (obtain ⟨l', rfl, h1⟩ := h; exact k _ _ h1)
theorem n_cut {M : St → World → Prop} (h : M l w) : Exit.then (fun a' w' => ∃ l', a' = act l' ∧ M l' w') Q .normal (act l) w := ⟨l, rfl, h⟩
/-- A cut behind a piece of code, said by its slots. -/
theorem c_cutG {n : Nat} {ds : List Nat} (I : List (Nat × Value) → World → Prop) (h : ∀ J : St → World → Prop, (∀ l' w' ps, I ps w' → agree l' ps → fin l' = (n, ds) → J l' w') → C ρ P x (Exit.then (fun a' w' => ∃ l', a' = act l' ∧ J l' w') Q) l w) (k : ∀ u ps w', I ps w' → C ρ P y Q ⟨n, u, ps, ds⟩ w') : C ρ P (.seq x y) Q l w := by
  refine c_cut (fun l' w' => ∃ u ps, act l' = act ⟨n, u, ps, ds⟩ ∧ I ps w') (h _ fun l' w' ps hi ha hn => ⟨_, ps, fin_act ha hn, hi⟩) ?_
  rintro l' w' ⟨u, ps, e, hi⟩
  have := k u ps w' hi
  unfold C at this ⊢
  rw [e]; exact this
/-- The same, where marks come up. -/
theorem c_cutM {n : Nat} (B : Nat) (I : List (Nat × Value) → World → Prop) (h : ∀ J : St → World → Prop, (∀ l' w' ps, I ps w' → agree l' ps → l'.n = n → Al B w' l'.ds → J l' w') → C ρ P x (Exit.then (fun a' w' => ∃ l', a' = act l' ∧ J l' w') Q) l w) (k : ∀ u ps w' ds, I ps w' → Al B w' ds → C ρ P y Q ⟨n, u, ps, ds⟩ w') : C ρ P (.seq x y) Q l w := by
  refine c_cut (fun l' w' => ∃ u ps ds, act l' = act ⟨n, u, ps, ds⟩ ∧ I ps w' ∧ Al B w' ds) (h _ fun l' w' ps hi ha hn hd => ⟨_, ps, l'.ds, by rw [act_agree l' ps ha, hn], hi, hd⟩) ?_
  rintro l' w' ⟨u, ps, ds, e, hi, hd⟩
  have := k u ps w' ds hi hd
  unfold C at this ⊢
  rw [e]; exact this
theorem n_cutG {J : St → World → Prop} (h : J l w) : Exit.then (fun a' w' => ∃ l', a' = act l' ∧ J l' w') Q .normal (act l) w := ⟨l, rfl, h⟩
theorem act_ini {fn : Func} {n : Nat} {vs : List Value} {ps : List (Nat × Value)} (hn : fn.ntmps = n) (hle : vs.length ≤ n) (hl : ini vs 0 = ps) :
    ({ tmps := vs.toArray ++ Array.replicate (fn.ntmps - vs.toArray.size) undef, defers := [] } : Act) = act ⟨n, fun _ => undef, ps, []⟩ := by
  have : vs.toArray ++ Array.replicate (fn.ntmps - vs.toArray.size) undef = (act ⟨n, fun _ => undef, ps, []⟩).tmps := by
    apply Array.ext_getElem?
    intro t
    rw [tmps_act, ← hl]
    simp only [look_ini vs 0 t (Nat.zero_le _), hn]
    rw [Array.getElem?_append]
    by_cases h1 : t < vs.length
    · have : t < n := by omega
      simp [h1, this]
    · by_cases h2 : t < n
      · have : t - vs.length < n - vs.length := by omega
        simp [h1, h2, this]
      · have : ¬ t - vs.length < n - vs.length := by omega
        simp [h1, h2, this]
  rw [this]; rfl
/-- What a function's body must achieve. -/
def BP (P : Program) (fn : Func) (R : Ending → World → Prop) : Exit → Act → World → Prop := bodyPostM Fence.wide 3 P fn R
theorem ret_of_c {f : FuncId} {fn : Func} {n : Nat} {vs : List Value} {ps : List (Nat × Value)} {φ : Value → World → Prop} (hf : P.funcs[f]? = some fn) (hb : fn.body = some c) (hn : fn.ntmps = n) (hle : vs.length ≤ n) (hl : ini vs 0 = ps)
    (h : C none P c (BP P fn fun e w' => ∃ v, e = .returned v ∧ φ v w' ∧ Ex w w') ⟨n, fun _ => undef, ps, []⟩ w) : Ret P f vs w φ := by
  unfold Ret
  refine (callsIn_wide (n := 3)).1 (callsIn_of_wp_marks hf hb trivial ?_ rfl)
  rw [act_ini hn hle hl]
  unfold C at h
  exact Fr.any (ρ := none) h
theorem calls_of_c {f : FuncId} {fn : Func} {n : Nat} {vs : List Value} {ps : List (Nat × Value)} {R : Ending → World → Prop} (hf : P.funcs[f]? = some fn) (hb : fn.body = some c) (hn : fn.ntmps = n) (hle : vs.length ≤ n) (hl : ini vs 0 = ps)
    (h : C none P c (BP P fn R) ⟨n, fun _ => undef, ps, []⟩ w) : Calls P f vs.toArray w R := by
  refine (callsIn_wide (n := 3)).1 (callsIn_of_wp_marks hf hb trivial ?_ rfl)
  rw [act_ini hn hle hl]
  unfold C at h
  exact Fr.any (ρ := none) h
/-- The marks' blocks are shut. -/
def shut : List Nat → World → World
  | [], w => w
  | D :: ds, w => shut ds (w.putObj D (.deferred none))
theorem Al.tail {B D : Nat} {ds : List Nat} (h : Al B w (D :: ds)) : Al B (w.putObj D (.deferred none)) ds := by
  have hn := List.nodup_cons.1 h.1
  refine ⟨hn.2, fun D' h' => ⟨(h.2 D' (List.mem_cons_of_mem _ h')).1, ?_⟩⟩
  exact (World.putObj_heap_other (fun e => hn.1 (by rw [← e]; exact h'))).trans (h.2 D' (List.mem_cons_of_mem _ h')).2
theorem leaves_marks {fn : Func} {tmps : Array Value} {R : Ending → World → Prop} {B : Nat} : ∀ (ds : List Nat) (w : World), Al B w ds → (∃ v, (results fn tmps).run P (shut ds w) = .ok v (shut ds w) ∧ R (.returned v) (shut ds w)) → LeavesInM Fence.wide 3 P fn tmps R (ds.map mkD) .returning w
  | [], w, _, h => h
  | D :: ds, w, hal, h => ⟨by simp, .inl ⟨D, _, rfl, run_takeDeferred (hal.2 D (List.mem_cons_self ..)).2, leaves_marks ds _ hal.tail h⟩⟩
theorem bp_nil {fn : Func} {R : Ending → World → Prop} {e : Exit} (he : e = .ret ∨ e = .normal) (hd : l.ds = []) (h : ∃ v, (results fn (act l).tmps).run P w = .ok v w ∧ R (.returned v) w) : BP P fn R e (act l) w := by
  have hds : (act l).defers = [] := by unfold act; rw [hd]; rfl
  unfold BP
  rcases he with rfl | rfl
  · show LeavesInM Fence.wide 3 P fn (act l).tmps R (act l).defers .returning w
    rw [hds]; exact h
  · show LeavesInM Fence.wide 3 P fn (act l).tmps R (act l).defers .returning w
    rw [hds]; exact h
theorem bp_marks {fn : Func} {R : Ending → World → Prop} {B : Nat} (hal : Al B w l.ds) (h : ∃ v, (results fn (act l).tmps).run P (shut l.ds w) = .ok v (shut l.ds w) ∧ R (.returned v) (shut l.ds w)) : BP P fn R .ret (act l) w :=
  leaves_marks l.ds w hal h
theorem p_ret1 {fn : Func} {t : Nat} {v : Value} {R : Ending → World → Prop} (hd : l.ds = []) (hr : fn.results = #[.tmp t]) (hv : nth l t = v) (h : R (.returned v) w) : BP P fn R .ret (act l) w :=
  bp_nil (.inl rfl) hd ⟨_, results_tmp hr _ _ _, by rw [Array.getD_eq_getD_getElem?, nth_eq, hv]; exact h⟩
theorem p_ret2 {fn : Func} {t u : Nat} {v v' : Value} {R : Ending → World → Prop} (hd : l.ds = []) (hr : fn.results = #[.tmp t, .tmp u]) (hv : nth l t = v) (hv' : nth l u = v') (h : R (.returned (.tuple #[v, v'])) w) : BP P fn R .ret (act l) w :=
  bp_nil (.inl rfl) hd ⟨_, results_tmp2 hr _ _ _, by rw [Array.getD_eq_getD_getElem?, Array.getD_eq_getD_getElem?, nth_eq, nth_eq, hv, hv']; exact h⟩
theorem p_ret0 {fn : Func} {R : Ending → World → Prop} (hd : l.ds = []) (hr : fn.results = #[]) (h : R (.returned (.tuple #[])) w) : BP P fn R .ret (act l) w :=
  bp_nil (.inl rfl) hd ⟨_, results_none hr _ _ _, h⟩
theorem p_end0 {fn : Func} {R : Ending → World → Prop} (hd : l.ds = []) (hr : fn.results = #[]) (h : R (.returned (.tuple #[])) w) : BP P fn R .normal (act l) w :=
  bp_nil (.inr rfl) hd ⟨_, results_none hr _ _ _, h⟩
theorem m_ret1 {B : Nat} {fn : Func} {t : Nat} {v : Value} {R : Ending → World → Prop} (hal : Al B w l.ds) (hr : fn.results = #[.tmp t]) (hv : nth l t = v) (h : R (.returned v) (shut l.ds w)) : BP P fn R .ret (act l) w :=
  bp_marks hal ⟨_, results_tmp hr _ _ _, by rw [Array.getD_eq_getD_getElem?, nth_eq, hv]; exact h⟩
theorem m_ret2 {B : Nat} {fn : Func} {t u : Nat} {v v' : Value} {R : Ending → World → Prop} (hal : Al B w l.ds) (hr : fn.results = #[.tmp t, .tmp u]) (hv : nth l t = v) (hv' : nth l u = v') (h : R (.returned (.tuple #[v, v'])) (shut l.ds w)) : BP P fn R .ret (act l) w :=
  bp_marks hal ⟨_, results_tmp2 hr _ _ _, by rw [Array.getD_eq_getD_getElem?, Array.getD_eq_getD_getElem?, nth_eq, nth_eq, hv, hv']; exact h⟩
end control

section ops
variable {P : Program} {Q : Exit → Act → World → Prop} {ol rest : List Oper} {l : St} {w : World}
theorem W_nil (h : Q .normal (act l) w) : W P ol Q [] l w := h
theorem W_nil' {l' : St} (e : l = l') (h : Q .normal (act l') w) : W P ol Q [] l w := by subst e; exact h
theorem W_run {o : Oper} {d : Nat} {v : Value} {w' : World} (hg : o.guard = none) (hd : o.dst = some d) (hr : (execOp (ev l) o).run P w = .ok (.value v) w') (k : W P ol Q rest (upd l d v) w') :
    W P ol Q (o :: rest) l w := by
  refine wpList_plain hg fun K hK => ?_
  simp only [Oper.wp, eval_act, hr, Oper.upon_value, hd, put_act]
  exact hK _ _ k
theorem W_op {o : Oper} {d : Nat} {v : Value} (hg : o.guard = none) (hd : o.dst = some d) (hr : Runs P o l w v) (k : W P ol Q rest (upd l d v) w) : W P ol Q (o :: rest) l w := W_run hg hd hr k
theorem W_skp {o : Oper} {w' : World} (hg : o.guard = none) (hd : o.dst = none) (hr : (execOp (ev l) o).run P w = .ok .skip w') (k : W P ol Q rest l w') :
    W P ol Q (o :: rest) l w := by
  refine wpList_plain hg fun K hK => ?_
  simp only [Oper.wp, eval_act, hr, Oper.upon_skip, hd, put_none]
  exact hK _ _ k
theorem yielded_of {j dj : Nat} (hj : dstAt ol j = some dj) : yielded ol.toArray (act l).tmps j = match nth l dj with | .bool b => some b | _ => none := by
  have h1 : ((ol.toArray[j]?).bind (·.dst)) = some dj := by simpa using (dstAt_eq ol j).trans hj
  have h2 : (((ol.toArray[j]?).bind (·.dst)).bind ((act l).tmps[·]?)) = (act l).tmps[dj]? := by rw [h1]; rfl
  simp only [yielded]
  rw [h2, ← nth_eq]
  cases (act l).tmps[dj]? with
  | none => rfl
  | some v => cases v <;> rfl
theorem wanted_of {o : Oper} {j dj : Nat} {want b : Bool} (hg : o.guard = some (j, want)) (hj : dstAt ol j = some dj) (hv : nth l dj = .bool b) :
    Region.wanted o (yielded ol.toArray (act l).tmps) = (b == want) := by
  simp only [Region.wanted, hg]
  rw [yielded_of hj, hv]
  cases b <;> cases want <;> rfl
theorem wanted_undef {o : Oper} {j dj : Nat} {want : Bool} (hg : o.guard = some (j, want)) (hj : dstAt ol j = some dj) (hv : nth l dj = undef) :
    Region.wanted o (yielded ol.toArray (act l).tmps) = false := by
  simp only [Region.wanted, hg]
  rw [yielded_of hj, hv]
  rfl
/-- A guarded operation that is passed over. -/
theorem W_pass {o : Oper} {j dj d : Nat} {want b : Bool} (hg : o.guard = some (j, want)) (hj : dstAt ol j = some dj) (hv : nth l dj = .bool b) (hne : (b == want) = false) (hd : o.dst = some d)
    (k : W P ol Q rest (upd l d undef) w) : W P ol Q (o :: rest) l w := by
  unfold W wpList
  rw [wanted_of hg hj hv, hne, hd, put_act]
  exact k
theorem W_passU {o : Oper} {j dj d : Nat} {want : Bool} (hg : o.guard = some (j, want)) (hj : dstAt ol j = some dj) (hv : nth l dj = undef) (hd : o.dst = some d)
    (k : W P ol Q rest (upd l d undef) w) : W P ol Q (o :: rest) l w := by
  unfold W wpList
  rw [wanted_undef hg hj hv, hd, put_act]
  exact k
/-- A guarded operation that is carried out. -/
theorem W_take {od : Option Nat} {op : Op} {T : TypeId} {pos : String} {af : Array Edge} {j dj : Nat} {want b : Bool} (hj : dstAt ol j = some dj) (hv : nth l dj = .bool b) (hne : (b == want) = true)
    (k : W P ol Q (⟨od, op, T, pos, af, none⟩ :: rest) l w) : W P ol Q (⟨od, op, T, pos, af, some (j, want)⟩ :: rest) l w := by
  unfold W wpList at *
  rw [wanted_of (j := j) (want := want) rfl hj hv, hne, if_pos rfl]
  rw [if_pos (show Region.wanted _ _ = true from rfl)] at k
  exact k
theorem act_self (l : St) (d : Nat) (v : Value) (h : nth l d = v) : act (upd l d v) = act l := by
  rw [← put_act]
  unfold Act.put
  have : (act l).tmps.setIfInBounds d v = (act l).tmps := by
    apply Array.ext_getElem?
    intro t
    rw [Array.getElem?_setIfInBounds]
    split
    · rename_i e; subst e
      split
      · rename_i hlt
        rw [← h, ← nth_eq]
        have : (act l).tmps[d]? = some (act l).tmps[d] := by simp [hlt]
        rw [this]; rfl
      · rename_i hlt; simp at hlt; simp [hlt]
    · rfl
  simp only [this]
/-- The way parts at the first operation that hangs on a test. -/
theorem W_split {od : Option Nat} {op : Op} {T : TypeId} {pos : String} {af : Array Edge} {j dj : Nat} {want : Bool} {p : Prop} {_ : Decidable p} (_hj : dstAt ol j = some dj) (hv : nth l dj = .bool (decide p))
    (ht : p → W P ol Q (⟨od, op, T, pos, af, some (j, want)⟩ :: rest) (upd l dj (.bool true)) w) (hf : ¬ p → W P ol Q (⟨od, op, T, pos, af, some (j, want)⟩ :: rest) (upd l dj (.bool false)) w) :
    W P ol Q (⟨od, op, T, pos, af, some (j, want)⟩ :: rest) l w := by
  unfold W at *
  by_cases hp : p
  · have := ht hp
    rwa [act_self l dj (.bool true) (by simpa [hp] using hv)] at this
  · have := hf hp
    rwa [act_self l dj (.bool false) (by simpa [hp] using hv)] at this
/-- Function f has a body, and no word of the machine's own. -/
class Fun (P : Program) (f : FuncId) : Prop where
  out : ∃ fn b, P.funcs[f]? = some fn ∧ fn.body = some b ∧ (fn.name == "runtime.NumGoroutine") = false
theorem run_call {P : Program} {f : FuncId} {vs : List Value} {w : World} [h : Fun P f] {first captured : Array Value} :
    (do let d ← Deferred.ofValue (.func (.func f) first captured) vs.toArray; invoke d.target d.args : Sem Next).run P w = .ok (.enter f (first ++ vs.toArray ++ captured)) w := by
  obtain ⟨fn, b, h1, h2, h3⟩ := h.out
  simp [Deferred.ofValue, invoke, callFunc, h1, h2]
  simpa using h3
/-- A call of a function, by its contract. -/
theorem W_call {d : Nat} {f : FuncId} {xs : List Operand} {vs : List Value} {tys : Array TypeId} {T : TypeId} {pos : String} {af : Array Edge} {φ : Value → World → Prop} [Fun P f]
    (hc : Ret P f vs w φ) (hx : evs l xs = vs)
    (k : ∀ v w', φ v w' → Ex w w' → W P ol Q rest (upd l d v) w') :
    W P ol Q (⟨some d, .call { callee := .value (.func f), args := xs.toArray, argTypes := tys }, T, pos, af, none⟩ :: rest) l w := by
  refine wpList_plain rfl fun K hK => ?_
  have hrun : (execOp (ev l) ⟨some d, .call { callee := .value (.func f), args := xs.toArray, argTypes := tys }, T, pos, af, none⟩).run P w = .ok (.enter f vs.toArray) w := by
    have := run_call (P := P) (f := f) (vs := vs) (w := w) (first := #[]) (captured := #[])
    simp only [execOp, resolve, List.map_toArray, map_evs, hx, ev]
    simpa using this
  simp only [Oper.wp, eval_act, hrun, Oper.upon_enter]
  refine Calls.mono hc ?_
  rintro e w' ⟨v, rfl, h1, h2⟩
  show K ((act l).put (some d) v) w'
  rw [put_act]
  exact hK _ _ (k v w' h1 h2)
/-- A call of a function value: a closure with what it has captured. -/
theorem W_callf {d : Nat} {f : FuncId} {x : Operand} {xs : List Operand} {vs : List Value} {tys : Array TypeId} {T : TypeId} {pos : String} {af : Array Edge} {φ : Value → World → Prop} {first captured : List Value} [Fun P f]
    (hf : ev l x = .func (.func f) first.toArray captured.toArray) (hc : Ret P f (first ++ vs ++ captured) w φ) (hx : evs l xs = vs)
    (k : ∀ v w', φ v w' → Ex w w' → W P ol Q rest (upd l d v) w') :
    W P ol Q (⟨some d, .call { callee := .value x, args := xs.toArray, argTypes := tys }, T, pos, af, none⟩ :: rest) l w := by
  refine wpList_plain rfl fun K hK => ?_
  have hrun : (execOp (ev l) ⟨some d, .call { callee := .value x, args := xs.toArray, argTypes := tys }, T, pos, af, none⟩).run P w = .ok (.enter f (first ++ vs ++ captured).toArray) w := by
    have := run_call (P := P) (f := f) (vs := vs) (w := w) (first := first.toArray) (captured := captured.toArray)
    simp only [execOp, resolve, List.map_toArray, map_evs, hx, hf]
    simpa using this
  simp only [Oper.wp, eval_act, hrun, Oper.upon_enter]
  refine Calls.mono hc ?_
  rintro e w' ⟨v, rfl, h1, h2⟩
  show K ((act l).put (some d) v) w'
  rw [put_act]
  exact hK _ _ (k v w' h1 h2)
theorem W_callv {d : Nat} {f : FuncId} {xs : List Operand} {vs : List Value} {tys : Array TypeId} {T : TypeId} {pos : String} {af : Array Edge} {u : Value} [Fun P f]
    (hc : Ret P f vs w fun v _ => v = u) (hx : evs l xs = vs) (k : ∀ w', Ex w w' → W P ol Q rest (upd l d u) w') :
    W P ol Q (⟨some d, .call { callee := .value (.func f), args := xs.toArray, argTypes := tys }, T, pos, af, none⟩ :: rest) l w :=
  W_call hc hx fun v w' h h2 => by subst h; exact k w' h2
end ops

/-! ### Facts on types, found by the type's number -/
def aggD : TypeDesc → Bool
  | .struct _ => true
  | .array _ _ => true
  | _ => false
class Und (P : Program) (T : Nat) (d : outParam TypeDesc) : Prop where
  out : P.underlying T = some d
class Agg (P : Program) (T : Nat) : Prop where
  out : ∃ d, P.underlying T = some d ∧ aggD d = true
class NAgg (P : Program) (T : Nat) : Prop where
  out : ∃ d, P.underlying T = some d ∧ aggD d = false
class Sz (P : Program) (T : Nat) (z : outParam Value) (n b : outParam Nat) : Prop where
  out : (P.info? T).map (fun i => (i.zero, i.size, i.bytes)) = some (some z, n, b)
def fieldOff (P : Program) (S i : Nat) : Option Nat :=
  match P.underlying S with
  | some (.struct fs) => match fs[i]? with
    | some f => match P.info? f.type with
      | some inf => if inf.size = 0 then none else some f.offset
      | none => none
    | none => none
  | _ => none
class FdO (P : Program) (S i : Nat) (off : outParam Nat) : Prop where
  out : fieldOff P S i = some off
theorem Bx.cells {w : World} {b : Nat} {c : List Value} {T : TypeId} (h : Bx w b c T) : Cells w ⟨b, 0, none⟩ c := fun j v hj => by
  rw [add_mk, Nat.zero_add, h.cell]; exact hj

section runs
variable {P : Program} {l : St} {w : World} {od : Option Nat} {ty : TypeId} {pos : String} {af : Array Edge}
theorem Sz.parts {T : Nat} {z : Value} {n b : Nat} (h : Sz P T z n b) : ∃ i, P.info? T = some i ∧ i.zero = some z ∧ i.size = n ∧ i.bytes = b := by
  have := h.out
  cases e : P.info? T with
  | none => rw [e] at this; cases this
  | some i => rw [e] at this; simp at this; exact ⟨i, rfl, this.1, this.2.1, this.2.2⟩
theorem Und.run {T : Nat} {d : TypeDesc} (h : Und P T d) (w : World) : (underlying T).run P w = .ok d w := run_underlying h.out w
theorem Und.isAgg {T : Nat} {d : TypeDesc} (h : Und P T d) (w : World) : (isAgg T).run P w = .ok (aggD d) w := by
  simp only [Go.isAgg, Sem.run_bind, h.run, Result.andThen_ok]
  cases d <;> rfl
theorem Sz.run {T : Nat} {z : Value} {n b : Nat} (h : Sz P T z n b) (w : World) : (sizeOf T).run P w = .ok n w := by
  obtain ⟨i, hi, h1, h2, h3⟩ := h.parts
  simp [sizeOf, typeInfo, hi, h2]
theorem Sz.zero {T : Nat} {z : Value} {n b : Nat} (h : Sz P T z n b) (w : World) : (zeroValue T).run P w = .ok z w := by
  obtain ⟨i, hi, h1, h2, h3⟩ := h.parts
  simp [zeroValue, typeInfo, hi, h1]

theorem r_move {x : Operand} {v : Value} (h : ev l x = v) : Runs P ⟨od, .move x, ty, pos, af, none⟩ l w v := by
  simp [Runs, execOp, h]
theorem r_assign {x : Operand} {v : Value} (h : ev l x = v) : Runs P ⟨od, .assign x, ty, pos, af, none⟩ l w v := by
  simp [Runs, execOp, h]
theorem r_pick_true {c a b : Operand} {v : Value} (hc : ev l c = .bool true) (h : ev l a = v) : Runs P ⟨od, .pick c a b, ty, pos, af, none⟩ l w v := by
  simp [Runs, execOp, hc, h, asBool]
theorem r_pick_false {c a b : Operand} {v : Value} (hc : ev l c = .bool false) (h : ev l b = v) : Runs P ⟨od, .pick c a b, ty, pos, af, none⟩ l w v := by
  simp [Runs, execOp, hc, h, asBool]
section arith
variable {T T2 : TypeId} {x y : Operand} {k : IntKind} {m n : Int}
theorem run_guard_int (op : BinOp) (T : TypeId) (x y : Operand) (k k' : IntKind) (m n : Int) (w : World) : (eqGuard op T x y (.int k m) (.int k' n)).run P w = .ok () w := by
  unfold eqGuard; split <;> rfl
theorem r_bin {op : BinOp} {v : Value} (hx : ev l x = .int k m) (hy : ev l y = .int k n) (h : (binOp op T (.int k m) (.int k n)).run P w = .ok v w) : Runs P ⟨od, .binOp op T x y T2, ty, pos, af, none⟩ l w v := by
  simp [Runs, execOp, hx, hy, run_guard_int, h]
def In64 (n : Int) : Prop := -9223372036854775808 ≤ n ∧ n ≤ 9223372036854775807
theorem r_addw (hx : ev l x = .int k m) (hy : ev l y = .int k n) : Runs P ⟨od, .binOp .add T x y T2, ty, pos, af, none⟩ l w (.int k (k.wrap (m + n))) :=
  r_bin hx hy (by simp [binOp, Op.intArith])
theorem r_subw (hx : ev l x = .int k m) (hy : ev l y = .int k n) : Runs P ⟨od, .binOp .sub T x y T2, ty, pos, af, none⟩ l w (.int k (k.wrap (m - n))) :=
  r_bin hx hy (by simp [binOp, Op.intArith])
theorem r_mulw (hx : ev l x = .int k m) (hy : ev l y = .int k n) : Runs P ⟨od, .binOp .mul T x y T2, ty, pos, af, none⟩ l w (.int k (k.wrap (m * n))) :=
  r_bin hx hy (by simp [binOp, Op.intArith])
theorem r_add (hx : ev l x = .int .i64 m) (hy : ev l y = .int .i64 n) (hb : -9223372036854775808 ≤ m + n ∧ m + n ≤ 9223372036854775807) : Runs P ⟨od, .binOp .add T x y T2, ty, pos, af, none⟩ l w (.int .i64 (m + n)) := by
  have := r_addw (P := P) (od := od) (ty := ty) (pos := pos) (af := af) (T := T) (T2 := T2) (w := w) hx hy
  rwa [IntWalk.i64_in _ hb] at this
theorem r_sub (hx : ev l x = .int .i64 m) (hy : ev l y = .int .i64 n) (hb : -9223372036854775808 ≤ m - n ∧ m - n ≤ 9223372036854775807) : Runs P ⟨od, .binOp .sub T x y T2, ty, pos, af, none⟩ l w (.int .i64 (m - n)) := by
  have := r_subw (P := P) (od := od) (ty := ty) (pos := pos) (af := af) (T := T) (T2 := T2) (w := w) hx hy
  rwa [IntWalk.i64_in _ hb] at this
theorem r_mul (hx : ev l x = .int .i64 m) (hy : ev l y = .int .i64 n) (hb : -9223372036854775808 ≤ m * n ∧ m * n ≤ 9223372036854775807) : Runs P ⟨od, .binOp .mul T x y T2, ty, pos, af, none⟩ l w (.int .i64 (m * n)) := by
  have := r_mulw (P := P) (od := od) (ty := ty) (pos := pos) (af := af) (T := T) (T2 := T2) (w := w) hx hy
  rwa [IntWalk.i64_in _ hb] at this
theorem tdiv_in {m n : Int} (hn : 1 ≤ n) (h : -9223372036854775808 ≤ m ∧ m ≤ 9223372036854775807) : -9223372036854775808 ≤ m.tdiv n ∧ m.tdiv n ≤ 9223372036854775807 := by
  by_cases hm : 0 ≤ m
  · have := IntWalk.tdiv_le m n hm hn
    rw [Int.tdiv_eq_ediv_of_nonneg hm]
    omega
  · have h1 := IntWalk.tdiv_le (-m) n (by omega) hn
    have h2 : m.tdiv n = -((-m).tdiv n) := by rw [Int.neg_tdiv, Int.neg_neg]
    rw [h2, Int.tdiv_eq_ediv_of_nonneg (by omega)]
    omega
theorem r_quo (hx : ev l x = .int .i64 m) (hy : ev l y = .int .i64 n) (hn : 1 ≤ n) (hb : -9223372036854775808 ≤ m ∧ m ≤ 9223372036854775807) : Runs P ⟨od, .binOp .quo T x y T2, ty, pos, af, none⟩ l w (.int .i64 (m.tdiv n)) :=
  r_bin hx hy (by simp [binOp, Op.intDiv, show n ≠ 0 by omega, IntWalk.i64_in _ (tdiv_in hn hb)])
theorem r_rem (hx : ev l x = .int .i64 m) (hy : ev l y = .int .i64 n) (hn : 1 ≤ n) : Runs P ⟨od, .binOp .rem T x y T2, ty, pos, af, none⟩ l w (.int .i64 (m.tmod n)) :=
  r_bin hx hy (by simp [binOp, Op.intDiv, show n ≠ 0 by omega])
theorem r_lss (hx : ev l x = .int k m) (hy : ev l y = .int k n) : Runs P ⟨od, .binOp .lss T x y T2, ty, pos, af, none⟩ l w (.bool (decide (m < n))) :=
  r_bin hx hy (by simp [binOp, Op.intCmp])
theorem r_leq (hx : ev l x = .int k m) (hy : ev l y = .int k n) : Runs P ⟨od, .binOp .leq T x y T2, ty, pos, af, none⟩ l w (.bool (decide (m ≤ n))) :=
  r_bin hx hy (by simp [binOp, Op.intCmp])
theorem r_gtr (hx : ev l x = .int k m) (hy : ev l y = .int k n) : Runs P ⟨od, .binOp .gtr T x y T2, ty, pos, af, none⟩ l w (.bool (decide (n < m))) :=
  r_bin hx hy (by simp [binOp, Op.intCmp])
theorem r_geq (hx : ev l x = .int k m) (hy : ev l y = .int k n) : Runs P ⟨od, .binOp .geq T x y T2, ty, pos, af, none⟩ l w (.bool (decide (n ≤ m))) :=
  r_bin hx hy (by simp [binOp, Op.intCmp])
theorem r_eql (hx : ev l x = .int k m) (hy : ev l y = .int k n) : Runs P ⟨od, .binOp .eql T x y T2, ty, pos, af, none⟩ l w (.bool (decide (m = n))) :=
  r_bin hx hy (by simp only [binOp, Op.intCmp, ne_eq, not_true_eq_false, if_false, Sem.run_pure]; rfl)
theorem r_neq (hx : ev l x = .int k m) (hy : ev l y = .int k n) : Runs P ⟨od, .binOp .neq T x y T2, ty, pos, af, none⟩ l w (.bool (decide (m ≠ n))) :=
  r_bin hx hy (by
    simp only [binOp, Op.intCmp, ne_eq, not_true_eq_false, if_false, Sem.run_pure]
    have : (m != n) = decide (m ≠ n) := by by_cases h : m = n <;> simp [h]
    rw [this])
theorem r_neg (hx : ev l x = .int .i64 m) (hb : -9223372036854775807 ≤ m ∧ m ≤ 9223372036854775807) : Runs P ⟨od, .unOp .neg T x, ty, pos, af, none⟩ l w (.int .i64 (-m)) := by
  have h : IntKind.i64.wrap (-m) = -m := IntWalk.i64_in _ (by omega)
  simp [Runs, execOp, hx, Op.unary, Op.intArith, h]
theorem r_not {p : Prop} {_ : Decidable p} (hx : ev l x = .bool (decide p)) : Runs P ⟨od, .unOp .not T x, ty, pos, af, none⟩ l w (.bool (decide (¬ p))) := by
  simp [Runs, execOp, hx, Op.unary]
theorem r_notb {b : Bool} (hx : ev l x = .bool b) : Runs P ⟨od, .unOp .not T x, ty, pos, af, none⟩ l w (.bool (!b)) := by
  simp [Runs, execOp, hx, Op.unary]
theorem r_conv {src dst : TypeId} {k k' : IntKind} {ds : TypeDesc} [Und P src ds] [hd : Und P dst (.int k')] (hx : ev l x = .int k m) : Runs P ⟨od, .convert src dst x, ty, pos, af, none⟩ l w (.int k' (k'.wrap m)) := by
  have hs : Und P src ds := inferInstance
  simp only [Runs, execOp, hx, Go.convert, Sem.run_bind, hs.run, hd.run, Result.andThen_ok]
  cases ds <;> simp [Conv.intToInt]
end arith
theorem r_len {x : Operand} {T e : TypeId} {a : Option Addr} {n c : Nat} [h : Und P T (.slice e)] (hx : ev l x = .slice a n c) :
    Runs P ⟨od, .call { callee := .builtin .len, args := #[x], argTypes := #[T] }, ty, pos, af, none⟩ l w (.int .i64 n) := by
  simp [Runs, execOp, resolve, invoke, builtin, Builtin.len_, hx, h.run, goInt]
theorem r_lenStr {x : Operand} {T : TypeId} {s : ByteArray} [h : Und P T .string] (hx : ev l x = .string s) :
    Runs P ⟨od, .call { callee := .builtin .len, args := #[x], argTypes := #[T] }, ty, pos, af, none⟩ l w (.int .i64 s.size) := by
  simp [Runs, execOp, resolve, invoke, builtin, Builtin.len_, hx, h.run, goInt]
theorem r_lenSl {x : Operand} {T e : TypeId} {v : Value} {α : Type} {R : World → Value → α → Prop} {xs : List α} [h : Und P T (.slice e)] (hx : ev l x = v) (hs : Sl R w v xs) :
    Runs P ⟨od, .call { callee := .builtin .len, args := #[x], argTypes := #[T] }, ty, pos, af, none⟩ l w (.int .i64 xs.length) := by
  obtain ⟨_, a, cap, rfl, _⟩ := hs
  exact r_len (e := e) hx
theorem r_lenInts {kk : IntKind} {x : Operand} {T e : TypeId} {v : Value} {xs : List Int} [h : Und P T (.slice e)] (hx : ev l x = v) (hs : IntsK kk w v xs) :
    Runs P ⟨od, .call { callee := .builtin .len, args := #[x], argTypes := #[T] }, ty, pos, af, none⟩ l w (.int .i64 xs.length) := r_lenSl (e := e) hx hs
theorem r_lenIntss {x : Operand} {T e : TypeId} {v : Value} {xs : List (List Int)} [h : Und P T (.slice e)] (hx : ev l x = v) (hs : Intss w v xs) :
    Runs P ⟨od, .call { callee := .builtin .len, args := #[x], argTypes := #[T] }, ty, pos, af, none⟩ l w (.int .i64 xs.length) := r_lenSl (e := e) hx hs
theorem r_lenPrs {x : Operand} {T e : TypeId} {v : Value} {xs : List (Int × Int)} [h : Und P T (.slice e)] (hx : ev l x = v) (hs : Prs w v xs) :
    Runs P ⟨od, .call { callee := .builtin .len, args := #[x], argTypes := #[T] }, ty, pos, af, none⟩ l w (.int .i64 xs.length) := by
  obtain ⟨_, a, cap, rfl, _⟩ := hs
  exact r_len (e := e) hx
theorem r_load {x : Operand} {T : TypeId} {d : TypeDesc} {a : Addr} {v : Value} [h : Und P T d] (hd : aggD d = false) (hx : ev l x = .pointer (some a)) (hc : w.cell? a = some v) :
    Runs P ⟨od, .load T x, ty, pos, af, none⟩ l w v := by
  simp [Runs, execOp, hx, Instr.loadAt, Instr.sureAddr, loadVar, h.isAgg, hd, hc]
theorem r_loadF {x : Operand} {T : TypeId} {a : Addr} {v : Value} [h : NAgg P T] (hx : ev l x = .pointer (some a)) (hc : w.cell? a = some v) :
    Runs P ⟨od, .load T x, ty, pos, af, none⟩ l w v := by
  obtain ⟨d, h1, h2⟩ := h.out
  have := @r_load P l w od ty pos af x T d a v ⟨h1⟩ h2 hx hc
  exact this
theorem r_loadA {x : Operand} {T : TypeId} {a : Addr} {z : Value} {n b : Nat} {c : List Value} [h' : Agg P T] [hs : Sz P T z n b] (hx : ev l x = .pointer (some a)) (hc : Cells w a c) (hn : c.length = n) :
    Runs P ⟨od, .load T x, ty, pos, af, none⟩ l w (.agg c.toArray) := by
  have h1 := run_loadCells_list (P := P) w a c hc
  rw [hn] at h1
  obtain ⟨d, h2, hd⟩ := h'.out
  have h : Und P T d := ⟨h2⟩
  simp [Runs, execOp, hx, Instr.loadAt, Instr.sureAddr, loadVar, h.isAgg, hd, hs.run, h1]
theorem r_fieldAddr {x : Operand} {S i off : Nat} {b o : Nat} [h : FdO P S i off] (hx : ev l x = .pointer (some ⟨b, o, none⟩)) :
    Runs P ⟨od, .fieldAddr S x i, ty, pos, af, none⟩ l w (.pointer (some ⟨b, o + off, none⟩)) := by
  have h0 := h.out
  unfold fieldOff at h0
  split at h0
  · rename_i fs h1
    split at h0
    · rename_i f h2
      split at h0
      · rename_i inf h3
        split at h0
        · cases h0
        · rename_i h4
          simp at h0
          subst h0
          simp [Runs, execOp, hx, Instr.fieldAt, run_underlying h1, h2, Instr.sureAddr, fieldPlace, sizeOf, typeInfo, h3, h4, add_mk]
      · cases h0
    · cases h0
  · cases h0
theorem r_indexAddr {x ix : Operand} {T e : TypeId} {a : Addr} {n c i : Nat} {k : IntKind} {z : Value} {s b : Nat} [h : Und P T (.slice e)] [hs : Sz P e z s b] (hx : ev l x = .slice (some a) n c) (hi : ev l ix = .int k (i : Int)) (hlt : i < n) :
    Runs P ⟨od, .indexAddr T x ix, ty, pos, af, none⟩ l w (.pointer (some (a.add (i * s)))) := by
  simp [Runs, execOp, hx, hi, Instr.indexAt, asIntOf, h.run, hs.run, hlt]
theorem r_index {α : Type} {R : World → Value → α → Prop} {x ix : Operand} {T e : TypeId} {v : Value} {i : Nat} {k : IntKind} {z : Value} {b : Nat} {xs : List α} [h : Und P T (.slice e)] [hs : Sz P e z 1 b] (hx : ev l x = v) (hv : Sl R w v xs) (hi : ev l ix = .int k (i : Int)) (hlt : i < xs.length) :
    ∃ p u, Runs P ⟨od, .indexAddr T x ix, ty, pos, af, none⟩ l w (.pointer (some p)) ∧ w.cell? p = some u ∧ R w u xs[i] := by
  obtain ⟨_, a, cap, rfl, hc, hm, hall⟩ := hv
  obtain ⟨p, u, rfl, h1, h2⟩ := hall i hlt
  exact ⟨p.add i, u, by have := r_indexAddr (P := P) (T := T) (od := od) (ty := ty) (pos := pos) (af := af) (w := w) (e := e) hx hi hlt; rwa [Nat.mul_one] at this, h1, h2⟩
end runs
section ops2
variable {P : Program} {Q : Exit → Act → World → Prop} {ol rest : List Oper} {l : St} {w : World} {ty : TypeId} {pos : String} {af : Array Edge}
/-- x[i] of a slice of ints: the address, and what lies there. -/
theorem W_indexInt {kk : IntKind} {d : Nat} {x ix : Operand} {T e : TypeId} {v : Value} {i : Nat} {k : IntKind} {z : Value} {b : Nat} {xs : List Int} [h : Und P T (.slice e)] [hs : Sz P e z 1 b] (hx : ev l x = v) (hv : IntsK kk w v xs) (hi : ev l ix = .int k (i : Int)) (hlt : i < xs.length)
    (K : ∀ p, w.cell? p = some (.int kk (xs.getD i 0)) → W P ol Q rest (upd l d (.pointer (some p))) w) : W P ol Q (⟨some d, .indexAddr T x ix, ty, pos, af, none⟩ :: rest) l w := by
  obtain ⟨p, u, h1, h2, h3⟩ := r_index (P := P) (T := T) (od := some d) (ty := ty) (pos := pos) (af := af) (e := e) hx hv hi hlt
  refine W_op rfl rfl h1 (K p ?_)
  have e : xs.getD i 0 = xs[i] := by simp [hlt]
  rw [h2, e]
  exact congrArg some h3
theorem W_indexR {α : Type} {R : World → Value → α → Prop} {d : Nat} {x ix : Operand} {T e : TypeId} {v : Value} {i : Nat} {k : IntKind} {z : Value} {b : Nat} {xs : List α} [h : Und P T (.slice e)] [hs : Sz P e z 1 b] (hx : ev l x = v) (hv : Sl R w v xs) (hi : ev l ix = .int k (i : Int)) (hlt : i < xs.length)
    (K : ∀ p u, w.cell? p = some u → R w u xs[i] → W P ol Q rest (upd l d (.pointer (some p))) w) : W P ol Q (⟨some d, .indexAddr T x ix, ty, pos, af, none⟩ :: rest) l w := by
  obtain ⟨p, u, h1, h2, h3⟩ := r_index (P := P) (T := T) (od := some d) (ty := ty) (pos := pos) (af := af) (e := e) hx hv hi hlt
  exact W_op rfl rfl h1 (K p u h2 h3)
theorem W_indexIntss {d : Nat} {x ix : Operand} {T e : TypeId} {v : Value} {i : Nat} {k : IntKind} {z : Value} {b : Nat} {xs : List (List Int)} {w0 : World} [h : Und P T (.slice e)] [hs : Sz P e z 1 b] (hx : ev l x = v) (hv : Intss w0 v xs) (h0 : Ex w0 w) (hi : ev l ix = .int k (i : Int)) (hlt : i < xs.length)
    (K : ∀ p u, w.cell? p = some u → Ints w0 u (xs.getD i []) → W P ol Q rest (upd l d (.pointer (some p))) w) : W P ol Q (⟨some d, .indexAddr T x ix, ty, pos, af, none⟩ :: rest) l w := by
  obtain ⟨_, a, cap, rfl, hc, hm, hall⟩ := hv
  obtain ⟨p, u, rfl, h1, h2⟩ := hall i hlt
  have h3 := r_indexAddr (P := P) (T := T) (od := some d) (ty := ty) (pos := pos) (af := af) (w := w) (e := e) hx hi hlt
  rw [Nat.mul_one] at h3
  refine W_op rfl rfl h3 (K _ u (h0.cell h1) ?_)
  have e : xs.getD i [] = xs[i] := by simp [hlt]
  rw [e]; exact h2
theorem W_indexPr {d : Nat} {x ix : Operand} {T e : TypeId} {v : Value} {i : Nat} {k : IntKind} {z : Value} {b : Nat} {xs : List (Int × Int)} [h : Und P T (.slice e)] [hs : Sz P e z 2 b] (hx : ev l x = v) (hv : Prs w v xs) (hi : ev l ix = .int k (i : Int)) (hlt : i < xs.length)
    (K : ∀ p, Cells w p (pc (xs.getD i (0, 0))) → W P ol Q rest (upd l d (.pointer (some p))) w) : W P ol Q (⟨some d, .indexAddr T x ix, ty, pos, af, none⟩ :: rest) l w := by
  obtain ⟨_, a, cap, rfl, hc, hm, hall⟩ := hv
  obtain ⟨p, rfl, h1⟩ := hall i hlt
  refine W_op rfl rfl (v := .pointer (some (p.add (i * 2)))) (r_indexAddr (e := e) hx hi hlt) (K _ ?_)
  have e : xs.getD i (0, 0) = xs[i] := by simp [hlt]
  rw [e]; exact h1
/-- A new variable that holds a value. -/
theorem W_box {d : Nat} {x : Operand} {T : TypeId} {v : Value} {c : List Value} (hx : ev l x = v) (hc : v.cells = c.toArray)
    (K : ∀ b w', Bx w' b c T → Ex w w' → b = w.heap.size → W P ol Q rest (upd l d (.pointer (some ⟨b, 0, none⟩))) w') : W P ol Q (⟨some d, .box T x, ty, pos, af, none⟩ :: rest) l w := by
  refine W_run (w' := w.alloc (.cells c.toArray T)) rfl rfl ?_ (K w.heap.size _ (Bx.new w c T) (Ex.alloc _ _) rfl)
  simp [execOp, hx, Instr.box, newVar, newRow, hc]
theorem W_alloc {d : Nat} {T : TypeId} {z : Value} {n b : Nat} {c : List Value} [h : Sz P T z n b] (hc : z.cells = c.toArray)
    (K : ∀ b w', Bx w' b c T → Ex w w' → b = w.heap.size → W P ol Q rest (upd l d (.pointer (some ⟨b, 0, none⟩))) w') : W P ol Q (⟨some d, .alloc T, ty, pos, af, none⟩ :: rest) l w := by
  refine W_run (w' := w.alloc (.cells c.toArray T)) rfl rfl ?_ (K w.heap.size _ (Bx.new w c T) (Ex.alloc _ _) rfl)
  simp [execOp, Instr.alloc, newVar, newRow, h.zero, hc]
end ops2

/-! ### Regions that draw their order: every world that the region may have made -/
section quiet
variable {P : Program} {w : World} {ol rest : List Oper} {Q : Act → Prop} {l : St} {ty : TypeId} {pos : String} {af : Array Edge}
theorem WQ_nil {Q : Exit → Act → World → Prop} {l' : St} (e : l = l') (h : ∀ w', Ex w w' → Q .normal (act l') w') : WQ P (Ex w) ol (fun a' => ∀ w', Ex w w' → Q .normal a' w') [] l := by subst e; exact h
theorem WQ_op {o : Oper} {d : Nat} {v : Value} (hg : o.guard = none) (hd : o.dst = some d) (hr : ∀ w', Ex w w' → Runs P o l w' v) (k : WQ P (Ex w) ol Q rest (upd l d v)) : WQ P (Ex w) ol Q (o :: rest) l := by
  refine wpQuiet_step fun K hK => ?_
  rw [if_pos (by simp [Region.wanted, hg])]
  refine ⟨v, fun w' hw' => ?_, ?_⟩
  · unfold Oper.quietAt
    rw [eval_act]
    have := hr w' hw'
    unfold Runs at this
    rw [this]
    exact ⟨rfl, rfl⟩
  · rw [hd, put_act]; exact hK _ k
theorem WQ_pass {o : Oper} {j dj d : Nat} {want b : Bool} (hg : o.guard = some (j, want)) (hj : dstAt ol j = some dj) (hv : nth l dj = .bool b) (hne : (b == want) = false) (hd : o.dst = some d)
    (k : WQ P (Ex w) ol Q rest (upd l d undef)) : WQ P (Ex w) ol Q (o :: rest) l := by
  unfold WQ wpQuiet
  rw [wanted_of hg hj hv, hne, hd, put_act]
  exact k
theorem WQ_passU {o : Oper} {j dj d : Nat} {want : Bool} (hg : o.guard = some (j, want)) (hj : dstAt ol j = some dj) (hv : nth l dj = undef) (hd : o.dst = some d)
    (k : WQ P (Ex w) ol Q rest (upd l d undef)) : WQ P (Ex w) ol Q (o :: rest) l := by
  unfold WQ wpQuiet
  rw [wanted_undef hg hj hv, hd, put_act]
  exact k
theorem WQ_take {od : Option Nat} {op : Op} {T : TypeId} {pos : String} {af : Array Edge} {j dj : Nat} {want b : Bool} (hj : dstAt ol j = some dj) (hv : nth l dj = .bool b) (hne : (b == want) = true)
    (k : WQ P (Ex w) ol Q (⟨od, op, T, pos, af, none⟩ :: rest) l) : WQ P (Ex w) ol Q (⟨od, op, T, pos, af, some (j, want)⟩ :: rest) l := by
  unfold WQ wpQuiet at *
  rw [wanted_of (j := j) (want := want) rfl hj hv, hne, if_pos rfl]
  rw [if_pos (show Region.wanted _ _ = true from rfl)] at k
  exact k
theorem WQ_split {od : Option Nat} {op : Op} {T : TypeId} {pos : String} {af : Array Edge} {j dj : Nat} {want : Bool} {p : Prop} {_ : Decidable p} (_hj : dstAt ol j = some dj) (hv : nth l dj = .bool (decide p))
    (ht : p → WQ P (Ex w) ol Q (⟨od, op, T, pos, af, some (j, want)⟩ :: rest) (upd l dj (.bool true))) (hf : ¬ p → WQ P (Ex w) ol Q (⟨od, op, T, pos, af, some (j, want)⟩ :: rest) (upd l dj (.bool false))) :
    WQ P (Ex w) ol Q (⟨od, op, T, pos, af, some (j, want)⟩ :: rest) l := by
  unfold WQ at *
  by_cases hp : p
  · have := ht hp
    rwa [act_self l dj (.bool true) (by simpa [hp] using hv)] at this
  · have := hf hp
    rwa [act_self l dj (.bool false) (by simpa [hp] using hv)] at this
theorem WQ_callv {d : Nat} {f : FuncId} {xs : List Operand} {vs : List Value} {tys : Array TypeId} {T : TypeId} {u : Value} [Fun P f]
    (hc : ∀ w', Ex w w' → Ret P f vs w' fun v _ => v = u) (hx : evs l xs = vs) (k : WQ P (Ex w) ol Q rest (upd l d u)) :
    WQ P (Ex w) ol Q (⟨some d, .call { callee := .value (.func f), args := xs.toArray, argTypes := tys }, T, pos, af, none⟩ :: rest) l := by
  refine wpQuiet_step fun K hK => ?_
  rw [if_pos (show Region.wanted _ _ = true from rfl)]
  refine ⟨u, fun w' hw' => ?_, ?_⟩
  · unfold Oper.quietAt
    rw [eval_act]
    have hrun : (execOp (ev l) ⟨some d, .call { callee := .value (.func f), args := xs.toArray, argTypes := tys }, T, pos, af, none⟩).run P w' = .ok (.enter f vs.toArray) w' := by
      have := run_call (P := P) (f := f) (vs := vs) (w := w') (first := #[]) (captured := #[])
      simp only [execOp, resolve, List.map_toArray, map_evs, hx, ev]
      simpa using this
    rw [hrun]
    refine ⟨rfl, Calls.mono (hc w' hw') ?_⟩
    rintro e w2 ⟨v, rfl, rfl, h2⟩
    exact ⟨rfl, hw'.trans h2⟩
  · show K ((act l).put (some d) u)
    rw [put_act]; exact hK _ k
theorem WQ_indexInt {kk : IntKind} {d : Nat} {x ix : Operand} {T e : TypeId} {v : Value} {i : Nat} {k : IntKind} {z : Value} {b : Nat} {xs : List Int} [h : Und P T (.slice e)] [hs : Sz P e z 1 b] (hx : ev l x = v) (hv : IntsK kk w v xs) (hi : ev l ix = .int k (i : Int)) (hlt : i < xs.length)
    (K : ∀ p, w.cell? p = some (.int kk (xs.getD i 0)) → WQ P (Ex w) ol Q rest (upd l d (.pointer (some p)))) : WQ P (Ex w) ol Q (⟨some d, .indexAddr T x ix, ty, pos, af, none⟩ :: rest) l := by
  obtain ⟨_, a, cap, rfl, hc, hm, hall⟩ := hv
  obtain ⟨p, u, rfl, h1, h2⟩ := hall i hlt
  refine WQ_op rfl rfl (v := .pointer (some (p.add i))) (fun w' _ => ?_) (K _ ?_)
  · have := r_indexAddr (P := P) (T := T) (od := some d) (ty := ty) (pos := pos) (af := af) (w := w') (e := e) hx hi hlt
    rwa [Nat.mul_one] at this
  · have e : xs.getD i 0 = xs[i] := by simp [hlt]
    rw [h1, e]; exact congrArg some h2
theorem WQ_indexPr {d : Nat} {x ix : Operand} {T e : TypeId} {v : Value} {i : Nat} {k : IntKind} {z : Value} {b : Nat} {xs : List (Int × Int)} [h : Und P T (.slice e)] [hs : Sz P e z 2 b] (hx : ev l x = v) (hv : Prs w v xs) (hi : ev l ix = .int k (i : Int)) (hlt : i < xs.length)
    (K : ∀ p, Cells w p (pc (xs.getD i (0, 0))) → WQ P (Ex w) ol Q rest (upd l d (.pointer (some p)))) : WQ P (Ex w) ol Q (⟨some d, .indexAddr T x ix, ty, pos, af, none⟩ :: rest) l := by
  obtain ⟨_, a, cap, rfl, hc, hm, hall⟩ := hv
  obtain ⟨p, rfl, h1⟩ := hall i hlt
  refine WQ_op rfl rfl (v := .pointer (some (p.add (i * 2)))) (fun w' _ => r_indexAddr (e := e) hx hi hlt) (K _ ?_)
  have e : xs.getD i (0, 0) = xs[i] := by simp [hlt]
  rw [e]; exact h1
theorem WQ_indexIntss {d : Nat} {x ix : Operand} {T e : TypeId} {v : Value} {i : Nat} {k : IntKind} {z : Value} {b : Nat} {xs : List (List Int)} {w0 : World} [h : Und P T (.slice e)] [hs : Sz P e z 1 b] (hx : ev l x = v) (hv : Intss w0 v xs) (h0 : Ex w0 w) (hi : ev l ix = .int k (i : Int)) (hlt : i < xs.length)
    (K : ∀ p u, w.cell? p = some u → Ints w0 u (xs.getD i []) → WQ P (Ex w) ol Q rest (upd l d (.pointer (some p)))) : WQ P (Ex w) ol Q (⟨some d, .indexAddr T x ix, ty, pos, af, none⟩ :: rest) l := by
  obtain ⟨_, a, cap, rfl, hc, hm, hall⟩ := hv
  obtain ⟨p, u, rfl, h1, h2⟩ := hall i hlt
  refine WQ_op rfl rfl (v := .pointer (some (p.add i))) (fun w' _ => ?_) (K _ u (h0.cell h1) ?_)
  · have := r_indexAddr (P := P) (T := T) (od := some d) (ty := ty) (pos := pos) (af := af) (w := w') (e := e) hx hi hlt
    rwa [Nat.mul_one] at this
  · have e : xs.getD i [] = xs[i] := by simp [hlt]
    rw [e]; exact h2
theorem WQ_indexR {α : Type} {R : World → Value → α → Prop} {d : Nat} {x ix : Operand} {T e : TypeId} {v : Value} {i : Nat} {k : IntKind} {z : Value} {b : Nat} {xs : List α} [h : Und P T (.slice e)] [hs : Sz P e z 1 b] (hx : ev l x = v) (hv : Sl R w v xs) (hi : ev l ix = .int k (i : Int)) (hlt : i < xs.length)
    (K : ∀ p u, w.cell? p = some u → R w u xs[i] → WQ P (Ex w) ol Q rest (upd l d (.pointer (some p)))) : WQ P (Ex w) ol Q (⟨some d, .indexAddr T x ix, ty, pos, af, none⟩ :: rest) l := by
  obtain ⟨_, a, cap, rfl, hc, hm, hall⟩ := hv
  obtain ⟨p, u, rfl, h1, h2⟩ := hall i hlt
  refine WQ_op rfl rfl (v := .pointer (some (p.add i))) (fun w' _ => ?_) (K _ u h1 h2)
  have := r_indexAddr (P := P) (T := T) (od := some d) (ty := ty) (pos := pos) (af := af) (w := w') (e := e) hx hi hlt
  rwa [Nat.mul_one] at this
end quiet

/-! ### Bools, strings, tuples, structs, function values -/
section more
variable {P : Program} {l : St} {w : World} {od : Option Nat} {ty : TypeId} {pos : String} {af : Array Edge} {T T2 : TypeId} {x y : Operand}
theorem r_eqlb {a b : Bool} [h : Und P T .bool] (hx : ev l x = .bool a) (hy : ev l y = .bool b) : Runs P ⟨od, .binOp .eql T x y T2, ty, pos, af, none⟩ l w (.bool (a == b)) := by
  have h1 : (eqGuard .eql T x y (.bool a) (.bool b)).run P w = .ok () w := by unfold eqGuard; rfl
  simp [Runs, execOp, hx, hy, h1, run_eql_bool w T a b h.out]
theorem r_neqb {a b : Bool} [h : Und P T .bool] (hx : ev l x = .bool a) (hy : ev l y = .bool b) : Runs P ⟨od, .binOp .neq T x y T2, ty, pos, af, none⟩ l w (.bool (a != b)) := by
  have h1 : (eqGuard .neq T x y (.bool a) (.bool b)).run P w = .ok () w := by unfold eqGuard; rfl
  have h2 : (binOp .neq T (.bool a) (.bool b)).run P w = .ok (.bool (a != b)) w := by
    simp [binOp, Op.equal, Op.maxDepth, run_equalIn_bool w 9999 T a b h.out, bne]
  simp [Runs, execOp, hx, hy, h1, h2]
theorem r_extract {vs : List Value} {n : Nat} {v : Value} (hx : ev l x = .tuple vs.toArray) (hn : vs[n]? = some v) : Runs P ⟨od, .extract x n, ty, pos, af, none⟩ l w v := by
  simp [Runs, execOp, hx, Instr.extract, hn]
theorem r_makeFunc {fn : Fn} {first captured : List Operand} {a b : List Value} (h1 : evs l first = a) (h2 : evs l captured = b) : Runs P ⟨od, .makeFunc fn first.toArray captured.toArray, ty, pos, af, none⟩ l w (.func fn a.toArray b.toArray) := by
  simp [Runs, execOp, Instr.makeFunc, map_evs, h1, h2]
theorem r_indexStr {ix : Operand} {s : ByteArray} {i : Nat} {k : IntKind} [h : Und P T .string] (hx : ev l x = .string s) (hi : ev l ix = .int k (i : Int)) (hlt : i < s.size) :
    Runs P ⟨od, .index T x ix, ty, pos, af, none⟩ l w (.int .u8 ((s.data.toList.map fun b => (b.toNat : Int)).getD i 0)) := by
  have e : s[i]? = some s[i] := by simp [hlt]
  have e2 : (s.data.toList.map fun b => (b.toNat : Int)).getD i 0 = (s[i].toNat : Int) := by
    have h2 : i < s.data.toList.length := by simpa using hlt
    simp [List.getD, List.getElem?_map, List.getElem?_eq_getElem h2]
    rfl
  rw [e2]
  simp [Runs, execOp, hx, hi, Instr.index, asIntOf, h.run, hlt]
/-- A struct whose fields are one cell each. -/
class Flat (P : Program) (T : Nat) (n : outParam Nat) : Prop where
  out : ∃ fs : Array Field, P.underlying T = some (.struct fs) ∧ fs.toList.mapM (fun f => (P.info? f.type).map fun i => (f.offset, i.size)) = some ((List.range n).map fun i => (i, 1))
def lset : List Value → Nat → Value → List Value
  | [], _, _ => []
  | _ :: r, 0, x => x :: r
  | v :: r, n + 1, x => v :: lset r n x
theorem lset_eq (l : List Value) (x : Value) : ∀ n, l.set n x = lset l n x := by
  induction l with
  | nil => intro n; simp [lset]
  | cons v r ih => intro n; cases n with
    | zero => simp [lset]
    | succ n => simpa [lset] using ih n
def lay : List Value → List (Nat × Value) → List Value
  | c, [] => c
  | c, (i, v) :: r => lay (lset c i v) r
theorem upd_length (l : List Value) (x : Value) : ∀ n, (lset l n x).length = l.length := by
  intro n; rw [← lset_eq]; simp
theorem lay_length : ∀ (ps : List (Nat × Value)) (c : List Value), (lay c ps).length = c.length
  | [], c => rfl
  | (i, v) :: r, c => by simp [lay, lay_length r, upd_length]
theorem cells_one {v : Value} (h : v.oneCell' = true) : v.cells = #[v] := by cases v <;> first | rfl | (simp [Value.oneCell'] at h)
theorem fill_flat (places : Nat → Option (Nat × Nat)) (n : Nat) (hp : ∀ i, i < n → places i = some (i, 1)) : ∀ (ps : List (Nat × Value)) (c : List Value), c.length = n → (∀ p ∈ ps, p.1 < n ∧ p.2.oneCell' = true) →
    Instr.fill places c.toArray ps = some (lay c ps).toArray
  | [], c, _, _ => rfl
  | (i, v) :: r, c, hc, h => by
    obtain ⟨h1, h2⟩ := h (i, v) (by simp)
    have ih := fill_flat places n hp r (lset c i v) (by rw [upd_length]; exact hc) (fun p hp => h p (by simp [hp]))
    simp only [Instr.fill, hp i h1, cells_one h2, lay]
    rw [← ih]
    have : ¬ c.length < i + 1 := by simp at h1; omega
    simp [this, ← lset_eq]
def partsOk (n : Nat) : List (Nat × Value) → Bool
  | [] => true
  | (i, v) :: r => decide (i < n) && v.oneCell' && partsOk n r
theorem partsOk_spec {n : Nat} : ∀ {ps : List (Nat × Value)}, partsOk n ps = true → ∀ p ∈ ps, p.1 < n ∧ p.2.oneCell' = true
  | [], _, p, hp => by simp at hp
  | (i, v) :: r, h, p, hp => by
    simp only [partsOk, Bool.and_eq_true, decide_eq_true_eq] at h
    rcases List.mem_cons.1 hp with rfl | hp
    · exact h.1
    · exact partsOk_spec h.2 p hp
def evps (l : St) : List (Nat × Operand) → List (Nat × Value)
  | [] => []
  | (i, x) :: r => (i, ev l x) :: evps l r
theorem map_evps (l : St) (ps : List (Nat × Operand)) : ps.map (fun (i, x) => (i, ev l x)) = evps l ps := by
  induction ps with
  | nil => rfl
  | cons p r ih => cases p; simp [evps, ih]
theorem r_build {n m b : Nat} {zs : List Value} {ps : List (Nat × Operand)} {qs : List (Nat × Value)} {c : List Value} [hF : Flat P T n] [hz : Sz P T (.agg zs.toArray) m b] (hq : evps l ps = qs) (hl : zs.length = n) (hok : partsOk n qs = true) (hc : lay zs qs = c) :
    Runs P ⟨od, .build T ps.toArray, ty, pos, af, none⟩ l w (.agg c.toArray) := by
  obtain ⟨fs, h1, h2⟩ := hF.out
  obtain ⟨it, h3, h4, _⟩ := hz.parts
  have hfill := fill_flat ((((List.range n).map fun i => (i, 1)).toArray)[·]?) n (fun i hi => by simp [hi]) qs zs hl (partsOk_spec hok)
  have hb : P.built T qs = some c.toArray := by
    simp only [Program.built, h3, h1, h4, h2, Value.cells]
    rw [hfill, hc]
  simp only [Runs, execOp, List.map_toArray, map_evps, hq, Sem.run_bind, Sem.run_pure]
  rw [run_build w T qs.toArray c.toArray (by simpa using hb)]
  rfl
theorem r_build1 {n m b i0 : Nat} {x0 : Operand} {v0 : Value} {zs c : List Value} [hF : Flat P T n] [hz : Sz P T (.agg zs.toArray) m b] (h0 : ev l x0 = v0) (o0 : v0.oneCell' = true) (hl : zs.length = n) (hi : (decide (i0 < n)) = true) (hc : lay zs [(i0, v0)] = c) :
    Runs P ⟨od, .build T #[(i0, x0)], ty, pos, af, none⟩ l w (.agg c.toArray) := by
  refine r_build (qs := [(i0, v0)]) (ps := [(i0, x0)]) (by simp [evps, h0]) hl ?_ hc
  simp only [decide_eq_true_eq] at hi
  simp [partsOk, o0, hi]
theorem r_build2 {n m b i0 i1 : Nat} {x0 x1 : Operand} {v0 v1 : Value} {zs c : List Value} [hF : Flat P T n] [hz : Sz P T (.agg zs.toArray) m b] (h0 : ev l x0 = v0) (h1 : ev l x1 = v1) (o0 : v0.oneCell' = true) (o1 : v1.oneCell' = true) (hl : zs.length = n) (hi : (decide (i0 < n) && decide (i1 < n)) = true) (hc : lay zs [(i0, v0), (i1, v1)] = c) :
    Runs P ⟨od, .build T #[(i0, x0), (i1, x1)], ty, pos, af, none⟩ l w (.agg c.toArray) := by
  refine r_build (qs := [(i0, v0), (i1, v1)]) (ps := [(i0, x0), (i1, x1)]) (by simp [evps, h0, h1]) hl ?_ hc
  simp only [Bool.and_eq_true, decide_eq_true_eq] at hi
  simp [partsOk, o0, o1, hi]
theorem r_build3 {n m b i0 i1 i2 : Nat} {x0 x1 x2 : Operand} {v0 v1 v2 : Value} {zs c : List Value} [hF : Flat P T n] [hz : Sz P T (.agg zs.toArray) m b] (h0 : ev l x0 = v0) (h1 : ev l x1 = v1) (h2 : ev l x2 = v2) (o0 : v0.oneCell' = true) (o1 : v1.oneCell' = true) (o2 : v2.oneCell' = true) (hl : zs.length = n) (hi : (decide (i0 < n) && decide (i1 < n) && decide (i2 < n)) = true) (hc : lay zs [(i0, v0), (i1, v1), (i2, v2)] = c) :
    Runs P ⟨od, .build T #[(i0, x0), (i1, x1), (i2, x2)], ty, pos, af, none⟩ l w (.agg c.toArray) := by
  refine r_build (qs := [(i0, v0), (i1, v1), (i2, v2)]) (ps := [(i0, x0), (i1, x1), (i2, x2)]) (by simp [evps, h0, h1, h2]) hl ?_ hc
  simp only [Bool.and_eq_true, decide_eq_true_eq] at hi
  simp [partsOk, o0, o1, o2, hi]
theorem r_build4 {n m b i0 i1 i2 i3 : Nat} {x0 x1 x2 x3 : Operand} {v0 v1 v2 v3 : Value} {zs c : List Value} [hF : Flat P T n] [hz : Sz P T (.agg zs.toArray) m b] (h0 : ev l x0 = v0) (h1 : ev l x1 = v1) (h2 : ev l x2 = v2) (h3 : ev l x3 = v3) (o0 : v0.oneCell' = true) (o1 : v1.oneCell' = true) (o2 : v2.oneCell' = true) (o3 : v3.oneCell' = true) (hl : zs.length = n) (hi : (decide (i0 < n) && decide (i1 < n) && decide (i2 < n) && decide (i3 < n)) = true) (hc : lay zs [(i0, v0), (i1, v1), (i2, v2), (i3, v3)] = c) :
    Runs P ⟨od, .build T #[(i0, x0), (i1, x1), (i2, x2), (i3, x3)], ty, pos, af, none⟩ l w (.agg c.toArray) := by
  refine r_build (qs := [(i0, v0), (i1, v1), (i2, v2), (i3, v3)]) (ps := [(i0, x0), (i1, x1), (i2, x2), (i3, x3)]) (by simp [evps, h0, h1, h2, h3]) hl ?_ hc
  simp only [Bool.and_eq_true, decide_eq_true_eq] at hi
  simp [partsOk, o0, o1, o2, o3, hi]
end more

/-! ### Regions that draw their order and write memory besides: quiet operations in any order, the others one behind the other -/
section mix
variable {P : Program} {ops : Array Oper}
def qE (P : Program) (w : World) (v : Value) : Result Next → Prop
  | .ok (.value u) w' => w' = w ∧ u = v
  | .ok .skip w' => w' = w ∧ v = undef
  | .ok (.enter f args) w' => w' = w ∧ Calls P f args w (fun e w'' => e = .returned v ∧ Ex w w'')
  | _ => False
def YE (P : Program) (ops : Array Oper) (w0 : World) (o : Oper) (v : Value) (a : Act) : Prop :=
  (Region.wanted o (yielded ops a.tmps) = true ∧ ∀ w, Ex w0 w → qE P w v ((execOp a.eval o).run P w)) ∨ (Region.wanted o (yielded ops a.tmps) = false ∧ v = undef)
theorem YE.of_same {w0 : World} {o : Oper} {v : Value} {a a' : Act} (hy : YE P ops w0 o v a) (he : execOp a'.eval o = execOp a.eval o)
    (hw : Region.wanted o (yielded ops a'.tmps) = Region.wanted o (yielded ops a.tmps)) : YE P ops w0 o v a' := by
  unfold YE at *
  rw [he, hw]; exact hy
def anc (ops : Array Oper) : Nat → Nat → List Nat
  | 0, _ => []
  | n + 1, t => match ops[t]? with
    | some o => (o.after.toList.filter (Region.binds .any ·)).flatMap fun e => e.on :: anc ops n e.on
    | none => []
def sinkT (ops : Array Oper) (qs : List Nat) (t : Nat) : Bool := qs.all fun i => (anc ops ops.size t).contains i
def Clo (ops : Array Oper) (listed : Array Bool) : Prop := ∀ j oj, ops[j]? = some oj → listed.getD j false = true → ∀ e ∈ oj.after, Region.binds .any e = true → listed.getD e.on false = true
theorem anc_listed {listed : Array Bool} (hc : Clo ops listed) : ∀ (n t : Nat) (o : Oper), ops[t]? = some o → (∀ e ∈ o.after, Region.binds .any e = true → listed.getD e.on false = true) → ∀ i ∈ anc ops n t, listed.getD i false = true
  | 0, t, o, _, _, i, hi => by simp [anc] at hi
  | n + 1, t, o, ho, hall, i, hi => by
    simp only [anc, ho, List.mem_flatMap, List.mem_filter, Array.mem_toList_iff, List.mem_cons] at hi
    obtain ⟨e, ⟨he, hb⟩, hi⟩ := hi
    have h1 := hall e he hb
    rcases hi with rfl | hi
    · exact h1
    · cases ho' : ops[e.on]? with
      | none => cases n <;> simp [anc, ho'] at hi
      | some o' => exact anc_listed hc n e.on o' ho' (hc e.on o' ho' h1) i hi
theorem Clo.set {listed : Array Bool} (hc : Clo ops listed) {j : Nat} (hj : j ∈ Region.ready .any ops listed) : Clo ops (listed.setIfInBounds j true) := by
  intro k ok hk hl e he hb
  by_cases hjk : j = k
  · subst hjk
    obtain ⟨_, oj, hoj, hall⟩ := mem_ready.1 hj
    rw [hk] at hoj; cases hoj
    exact getD_set_true (hall e he hb)
  · rw [getD_set_ne false hjk] at hl
    exact getD_set_true (hc k ok hk hl e he hb)
/-- What comes behind operation t: where it waits for all quiet ones, any world; else a world that keeps what lay. -/
def QT (s : Bool) (w : World) (K : Act → World → Prop) : Exit → Act → World → Prop
  | .normal, a, w' => if s then K a w' else Ex w w' ∧ ∀ w'', Ex w' w'' → K a w''
  | _, _, _ => False
/-- May it leave a world of any kind? -/
def flg (ops : Array Oper) (qs qb : List Nat) (t : Nat) : Bool := sinkT ops qs t || qb.contains t
def anyX (P : Program) (ops : Array Oper) (qs qb : List Nat) (Q : Act → World → Prop) : Nat → Array Bool → Act → World → Prop
  | 0, listed, a, w => Region.ready .any ops listed = [] ∧ Q a w
  | n + 1, listed, a, w => (Region.ready .any ops listed = [] → Q a w) ∧
    ∀ i ∈ Region.ready .any ops listed, wpOp P ops (QT (flg ops qs qb i) w (anyX P ops qs qb Q n (listed.setIfInBounds i true))) i (QT (flg ops qs qb i) w (anyX P ops qs qb Q n (listed.setIfInBounds i true)) .normal) a w
def QN (Q : Act → World → Prop) : Exit → Act → World → Prop
  | .normal, a, w => Q a w
  | _, _, _ => False
theorem QT.out {s : Bool} {w w' : World} {K : Act → World → Prop} {a : Act} (h : QT s w K .normal a w') : K a w' := by
  cases s
  · have h' : Ex w w' ∧ ∀ w'', Ex w' w'' → K a w'' := h
    exact h'.2 w' (Ex.refl w')
  · exact h
theorem QT.mk {s : Bool} {w w' : World} {K : Act → World → Prop} {a : Act} (h1 : Ex w w') (h2 : ∀ w'', Ex w' w'' → K a w'') : QT s w K .normal a w' := by
  cases s
  · exact ⟨h1, h2⟩
  · exact h2 w' (Ex.refl w')
theorem QT.map {s : Bool} {w w' : World} {K K' : Act → World → Prop} {a a' : Act} (h : QT s w K .normal a w') (hk : ∀ w'', K a w'' → K' a' w'') : QT s w K' .normal a' w' := by
  cases s
  · have h' : Ex w w' ∧ ∀ w'', Ex w' w'' → K a w'' := h
    exact ⟨h'.1, fun w'' h5 => hk _ (h'.2 w'' h5)⟩
  · exact hk _ h
theorem wpOp_to {Q Q' : Exit → Act → World → Prop} {K K' : Act → World → Prop} {i : Nat} {a : Act} {w : World} (hK : ∀ a w, K a w → K' a w) (hQ : ∀ e a w, e ≠ .normal → Q e a w → Q' e a w) (h : wpOp P ops Q i K a w) : wpOp P ops Q' i K' a w := by
  unfold wpOp at *
  split
  · rename_i ho; simp only [ho] at h; exact hK _ _ h
  · rename_i o ho
    simp only [ho] at h
    split
    · rename_i hw
      simp only [hw, if_true] at h
      rcases h with h | ⟨h1, a₀, w₀, h2⟩
      · refine .inl ?_
        unfold Oper.wp at *
        generalize (execOp a.eval o).run P w = r at *
        cases r with
        | ok n w' =>
          cases n <;> simp only [Oper.upon] at h ⊢ <;> first
            | exact hK _ _ h
            | (exact Rows.mono h fun u w'' he => hK _ _ he)
            | (refine Calls.mono h fun e w'' he => ?_
               cases e with
               | returned u => exact hK _ _ he
               | panicked c => exact hQ _ _ _ (by simp) he
               | outgrown => obtain ⟨a₀, w₀, h2⟩ := he; exact ⟨a₀, w₀, hQ _ _ _ (by simp) h2⟩)
        | halt x w' =>
          cases x <;> simp only [Oper.upon] at h ⊢
          case panic u => exact hQ _ _ _ (by simp) h
      · exact .inr ⟨h1, a₀, w₀, hQ _ _ _ (by simp) h2⟩
    · rename_i hw
      simp only [hw] at h
      exact hK _ _ h
theorem any_of_X {qs qb : List Nat} {Q : Act → World → Prop} : ∀ (n : Nat) (listed : Array Bool) (a : Act) (w : World), anyX P ops qs qb Q n listed a w → wpAny P .any ops (QN Q) n listed a w
  | 0, _, _, _, h => h
  | n + 1, listed, a, w, h => ⟨h.1, fun i hi => wpOp_to (fun a' w' hk => any_of_X n _ a' w' hk.out) (fun e a w he hq => by cases e <;> first | exact absurd rfl he | exact hq.elim) (h.2 i hi)⟩
theorem YE.step {w0 w : World} {i : Nat} {o : Oper} {v : Value} {a : Act} (hi : ops[i]? = some o) (hy : YE P ops w0 o v a) (hw : Ex w0 w) {s : Bool} {K : Act → World → Prop} (h : ∀ w', Ex w w' → K (a.put o.dst v) w') :
    wpOp P ops (QT s w K) i (QT s w K .normal) a w := by
  have key : ∀ w', Ex w w' → QT s w K .normal (a.put o.dst v) w' := fun w' hw' => QT.mk hw' fun w'' h2 => h w'' (hw'.trans h2)
  unfold wpOp
  simp only [hi]
  rcases hy with ⟨hw1, hv⟩ | ⟨hw1, rfl⟩
  · simp only [hw1, if_true]
    refine .inl ?_
    have h3 := hv w hw
    unfold Oper.wp
    generalize (execOp a.eval o).run P w = r at *
    cases r with
    | ok n w' =>
      cases n <;> simp only [qE] at h3 <;> simp only [Oper.upon]
      case value u => obtain ⟨rfl, rfl⟩ := h3; exact key _ (Ex.refl _)
      case skip => obtain ⟨rfl, rfl⟩ := h3; exact key _ (Ex.refl _)
      case enter f args =>
        obtain ⟨rfl, hc⟩ := h3
        exact hc.mono fun e w'' ⟨he, hw''⟩ => by subst he; exact key _ hw''
    | halt x w' => simp only [qE] at h3
  · simp only [hw1, Bool.false_eq_true, if_false]
    exact key _ (Ex.refl _)
theorem wpOpE_put {w0 : World} {j : Nat} {oi oj : Oper} {v : Value} (hj : ops[j]? = some oj) (hap : oi.apart ops oj = true)
    (hsi : ∀ cs b, oi.op ≠ .select cs b) (hsj : ∀ cs b, oj.op ≠ .select cs b) {Q : Exit → Act → World → Prop}
    (hQ : ∀ e a w, e ≠ .normal → ¬ Q e a w) {K : Act → World → Prop} {a : Act} {w : World}
    (hy : YE P ops w0 oi v a) (h : wpOp P ops Q j K (a.put oi.dst v) w) :
    wpOp P ops Q j (fun a' w' => YE P ops w0 oi v a' ∧ K (a'.put oi.dst v) w') a w := by
  obtain ⟨h1, h2, h3⟩ := Oper.apart_spec hap
  have keep : ∀ (a : Act), YE P ops w0 oi v a → ∀ u, YE P ops w0 oi v (a.put oj.dst u) := fun a hy u =>
    hy.of_same (execOp_put oi hsi a oj.dst u h3) (wanted_put oi a oj.dst u h3)
  have keepD : ∀ d, YE P ops w0 oi v { a with defers := d :: a.defers } := fun d => hy.of_same rfl rfl
  unfold wpOp at *
  simp only [hj] at *
  rw [wanted_put oj a oi.dst v h1] at h
  split
  · rename_i hw
    simp only [hw, if_true] at h
    rcases h with h | ⟨_, a₀, w₀, h2⟩
    case inr => exact absurd h2 (hQ _ _ _ (by simp))
    refine .inl ?_
    unfold Oper.wp at *
    rw [execOp_put oj hsj a oi.dst v h1] at h
    generalize (execOp a.eval oj).run P w = r at *
    cases r with
    | ok n w' =>
      cases n <;> simp only [Oper.upon] at h ⊢
      case value u => exact ⟨keep a hy u, by rw [← Act.put_comm a v u h2]; exact h⟩
      case skip => exact ⟨keep a hy _, by rw [← Act.put_comm a v undef h2]; exact h⟩
      case defer d =>
        refine ⟨keep _ (keepD d) _, ?_⟩
        rw [← Act.put_comm _ v undef h2, ← Act.put_defers]
        exact h
      case enter f args =>
        refine Calls.mono h fun e w'' he => ?_
        cases e with
        | returned u => exact ⟨keep a hy u, by rw [← Act.put_comm a v u h2]; exact he⟩
        | panicked c => exact absurd he (hQ _ _ _ (by simp))
        | outgrown => exact he
      case row row args => exact Rows.mono h fun u w'' he => ⟨keep a hy u, by rw [← Act.put_comm a v u h2]; exact he⟩
    | halt x w' =>
      cases x <;> simp only [Oper.upon] at h ⊢
      case panic u => exact absurd h (hQ _ _ _ (by simp))
  · rename_i hw
    simp only [hw] at h
    exact ⟨keep a hy _, by rw [← Act.put_comm a v undef h2]; exact h⟩
theorem QT_no {s : Bool} {w : World} {K : Act → World → Prop} : ∀ e a w', e ≠ .normal → ¬ QT s w K e a w' := by
  intro e a w' he h
  cases e <;> first | exact absurd rfl he | exact h
theorem getD_in' {listed : Array Bool} {i : Nat} (h : listed.getD i true = false) : listed.getD i false = false := by
  rw [Array.getD_eq_getD_getElem?] at *
  cases e : listed[i]? <;> simp_all
/-- A quiet operation that may come up now may be taken first. -/
theorem X_first {qs qb : List Nat} {Q : Act → World → Prop} {i : Nat} {oi : Oper} {v : Value} {w0 : World} (hi : ops[i]? = some oi) (hq : i ∈ qs) (hsel : ∀ (j : Nat) (o : Oper) cs b, ops[j]? = some o → o.op ≠ .select cs b) :
    ∀ (n : Nat) (listed : Array Bool) (a : Act) (w : World), Clo ops listed → (∀ k ∈ qb, listed.getD k false = true) →
      (∀ j oj, ops[j]? = some oj → j ≠ i → listed.getD j true = false → (∀ e ∈ oj.after, Region.binds .any e = true → e.on ≠ i) → oi.apart ops oj = true) →
      i ∈ Region.ready .any ops listed → YE P ops w0 oi v a → Ex w0 w →
      (∀ w', Ex w w' → anyX P ops qs qb Q n (listed.setIfInBounds i true) (a.put oi.dst v) w') → anyX P ops qs qb Q (n + 1) listed a w := by
  intro n
  induction n with
  | zero =>
    intro listed a w hcl hqb _ hr hy hw H
    refine ⟨fun h => (by rw [h] at hr; cases hr), fun j hj => ?_⟩
    by_cases hji : j = i
    · subst hji; exact hy.step hi hw H
    · have := ready_mono hj hji
      rw [(H w (Ex.refl w)).1] at this
      cases this
  | succ n ih =>
    intro listed a w hcl hqb hfree hr hy hw H
    refine ⟨fun h => (by rw [h] at hr; cases hr), fun j hj => ?_⟩
    by_cases hji : j = i
    · subst hji; exact hy.step hi hw H
    · have h1 := (H w (Ex.refl w)).2 j (ready_mono hj hji)
      obtain ⟨hjun, oj, hoj, hall⟩ := mem_ready.1 hj
      have hun : listed.getD i false = false := getD_in' (mem_ready.1 hr).1
      have hjb : qb.contains j = false := by
        cases e : qb.contains j
        · rfl
        · have h5 := hqb j (by simpa using e)
          have h6 := getD_in' hjun
          rw [h5] at h6; cases h6
      have hsink : flg ops qs qb j = false := by
        unfold flg
        rw [hjb, Bool.or_false]
        cases e : sinkT ops qs j
        · rfl
        · unfold sinkT at e
          rw [List.all_eq_true] at e
          have h5 := e i hq
          rw [List.contains_iff_mem] at h5
          have := anc_listed hcl _ j oj hoj hall i h5
          rw [hun] at this; cases this
      have hnot : ∀ e ∈ oj.after, Region.binds .any e = true → e.on ≠ i := fun e he hb heq => by
        have h1 := hall e he hb
        rw [heq, hun] at h1; cases h1
      have h2 := wpOpE_put hoj (hfree j oj hoj hji hjun hnot) (fun cs b => hsel i oi cs b hi) (fun cs b => hsel j oj cs b hoj) QT_no hy h1
      have hfree' : ∀ k ok, ops[k]? = some ok → k ≠ i → (listed.setIfInBounds j true).getD k true = false →
          (∀ e ∈ ok.after, Region.binds .any e = true → e.on ≠ i) → oi.apart ops ok = true := fun k ok hk hki hun hno => by
        refine hfree k ok hk hki ?_ hno
        by_cases hjk : j = k
        · subst hjk; exact hjun
        · rw [getD_set_ne true hjk] at hun; exact hun
      refine wpOp_to (fun a' w' h3 => ?_) (fun e a w he hq => absurd hq (QT_no e a w he)) h2
      obtain ⟨hy', h4⟩ := h3
      rw [hsink] at h4 ⊢
      have h4' : Ex w w' ∧ ∀ w'', Ex w' w'' → anyX P ops qs qb Q n ((listed.setIfInBounds i true).setIfInBounds j true) (a'.put oi.dst v) w'' := h4
      refine ⟨h4'.1, fun w'' hw'' => ih (listed.setIfInBounds j true) a' w'' (hcl.set hj) (fun k hk => getD_set_true (hqb k hk)) hfree' (ready_mono hr (Ne.symm hji)) hy' ((hw.trans h4'.1).trans hw'') fun w3 h3 => ?_⟩
      rw [Array.setIfInBounds_comm _ _ hji]
      exact h4'.2 w3 (hw''.trans h3)
/-- The like, for one that looks at no memory and waits for none: nothing is asked of what the others leave. -/
theorem X_firstP {qs qb : List Nat} {Q : Act → World → Prop} {i : Nat} {oi : Oper} {v : Value} (hi : ops[i]? = some oi) (hib : i ∈ qb) (hsel : ∀ (j : Nat) (o : Oper) cs b, ops[j]? = some o → o.op ≠ .select cs b) :
    ∀ (n : Nat) (listed : Array Bool) (a : Act) (w : World),
      (∀ j oj, ops[j]? = some oj → j ≠ i → listed.getD j true = false → (∀ e ∈ oj.after, Region.binds .any e = true → e.on ≠ i) → oi.apart ops oj = true) →
      i ∈ Region.ready .any ops listed → Yields P ops oi v a →
      anyX P ops qs qb Q n (listed.setIfInBounds i true) (a.put oi.dst v) w → anyX P ops qs qb Q (n + 1) listed a w := by
  have hfl : flg ops qs qb i = true := by unfold flg; simp [hib]
  intro n
  induction n with
  | zero =>
    intro listed a w _ hr hy H
    refine ⟨fun h => (by rw [h] at hr; cases hr), fun j hj => ?_⟩
    by_cases hji : j = i
    · subst hji; rw [hfl]; exact hy.wpOp hi H
    · have := ready_mono hj hji
      rw [H.1] at this
      cases this
  | succ n ih =>
    intro listed a w hfree hr hy H
    refine ⟨fun h => (by rw [h] at hr; cases hr), fun j hj => ?_⟩
    by_cases hji : j = i
    · subst hji; rw [hfl]; exact hy.wpOp hi H
    · have h1 := H.2 j (ready_mono hj hji)
      obtain ⟨hjun, oj, hoj, hall⟩ := mem_ready.1 hj
      have hun : listed.getD i false = false := getD_in' (mem_ready.1 hr).1
      have hnot : ∀ e ∈ oj.after, Region.binds .any e = true → e.on ≠ i := fun e he hb heq => by
        have h1 := hall e he hb
        rw [heq, hun] at h1; cases h1
      have h2 := wpOp_put hoj (hfree j oj hoj hji hjun hnot) (fun cs b => hsel i oi cs b hi) (fun cs b => hsel j oj cs b hoj) (fun c a w hq => absurd hq (QT_no _ _ _ (by simp))) hy h1
      have hfree' : ∀ k ok, ops[k]? = some ok → k ≠ i → (listed.setIfInBounds j true).getD k true = false →
          (∀ e ∈ ok.after, Region.binds .any e = true → e.on ≠ i) → oi.apart ops ok = true := fun k ok hk hki hun hno => by
        refine hfree k ok hk hki ?_ hno
        by_cases hjk : j = k
        · subst hjk; exact hjun
        · rw [getD_set_ne true hjk] at hun; exact hun
      refine wpOp_to (fun a' w' h3 => ?_) (fun e a w he hq => absurd hq (QT_no e a w he)) h2
      obtain ⟨hy', h4⟩ := h3
      refine h4.map fun w'' h5 => ih (listed.setIfInBounds j true) a' w'' hfree' (ready_mono hr (Ne.symm hji)) hy' ?_
      rw [Array.setIfInBounds_comm _ _ hji]
      exact h5
/-- The quiet operations in the text's order. -/
def wpM (P : Program) (ops : Array Oper) (w0 : World) (R : Act → Prop) : List Oper → Act → Prop
  | [], a => R a
  | o :: rest, a => if Region.wanted o (yielded ops a.tmps) then ∃ v, (∀ w, Ex w0 w → qE P w v ((execOp a.eval o).run P w)) ∧ wpM P ops w0 R rest (a.put o.dst v) else wpM P ops w0 R rest (a.put o.dst undef)
/-- Those that look at no memory and wait for none. -/
def wpB (P : Program) (ops : Array Oper) (R : Act → Prop) : List Oper → Act → Prop
  | [], a => R a
  | o :: rest, a => o.guard = none ∧ ∃ v, (∀ w, (execOp a.eval o).run P w = .ok (.value v) w) ∧ wpB P ops R rest (a.put o.dst v)
/-- The others, one behind the other. -/
def wpT (P : Program) (ops : Array Oper) (Q : Act → World → Prop) : List (Bool × Oper) → Act → World → Prop
  | [], a, w => Q a w
  | (s, o) :: rest, a, w => wpList P ops (QT s w (wpT P ops Q rest)) [o] a w
def lexQ (ops : Array Oper) : List Nat → Array Bool → Option (Array Bool)
  | [], listed => some listed
  | i :: r, listed => if (Region.ready .any ops listed).contains i && Region.free .any ops listed i then lexQ ops r (listed.setIfInBounds i true) else none
def seqT (ops : Array Oper) : List Nat → Array Bool → Bool
  | [], listed => (Region.ready .any ops listed).isEmpty
  | t :: r, listed => (Region.ready .any ops listed == [t]) && seqT ops r (listed.setIfInBounds t true)
def picks (ops : Array Oper) : List Nat → List Oper → Bool
  | [], [] => true
  | i :: r, _ :: q => decide (i < ops.size) && picks ops r q
  | _, _ => false
theorem X_seq {qs qb : List Nat} {Q : Act → World → Prop} : ∀ (ts : List Nat) (tl : List (Bool × Oper)) (listed : Array Bool) (a : Act) (w : World),
    (tl.map fun p => p.2) = ts.filterMap (ops[·]?) → (tl.map fun p => p.1) = ts.map (flg ops qs qb) → ts.length = tl.length → seqT ops ts listed = true → wpT P ops Q tl a w → anyX P ops qs qb Q ts.length listed a w
  | [], [], listed, a, w, _, _, _, hs, h => by
    simp only [seqT, List.isEmpty_iff] at hs
    exact ⟨hs, h⟩
  | [], p :: tl, _, _, _, _, _, hl, _, _ => by simp at hl
  | t :: ts, [], _, _, _, _, _, hl, _, _ => by simp at hl
  | t :: ts, (s, o) :: tl, listed, a, w, h1, h2, hl, hs, h => by
    simp only [seqT, Bool.and_eq_true, beq_iff_eq] at hs
    simp only [List.map_cons, List.cons.injEq] at h2
    have ho : ops[t]? = some o := by
      have hr : t ∈ Region.ready .any ops listed := by rw [hs.1]; simp
      obtain ⟨_, o', ho', _⟩ := mem_ready.1 hr
      simp only [List.map_cons, List.filterMap_cons, ho', List.cons.injEq] at h1
      rw [ho', h1.1]
    have h1' : (tl.map fun p => p.2) = ts.filterMap (ops[·]?) := by
      simp only [List.map_cons, List.filterMap_cons, ho, List.cons.injEq] at h1
      exact h1.2
    refine ⟨fun h0 => by rw [h0] at hs; simp at hs, fun i hi => ?_⟩
    rw [hs.1] at hi
    have : i = t := by simpa using hi
    subst this
    rw [← h2.1]
    have key : ∀ a' w', wpT P ops Q tl a' w' → anyX P ops qs qb Q ts.length (listed.setIfInBounds i true) a' w' := fun a' w' h' =>
      X_seq ts tl _ a' w' h1' h2.2 (by simpa using hl) hs.2 h'
    have h3 : wpOp P ops (QT s w (wpT P ops Q tl)) i (QT s w (wpT P ops Q tl) .normal) a w := by
      unfold wpOp
      simp only [ho]
      exact h
    refine wpOp_to (fun a' w' h4 => ?_) (fun e a w he hq => absurd hq (QT_no e a w he)) h3
    exact h4.map fun w'' h5 => key _ _ h5
theorem X_lex {qs0 qb : List Nat} {Q : Act → World → Prop} {w0 : World} (hsel : Region.noSelect ops = true) (ts : List Nat) (tl : List (Bool × Oper)) (h1 : (tl.map fun p => p.2) = ts.filterMap (ops[·]?)) (h2 : (tl.map fun p => p.1) = ts.map (flg ops qs0 qb)) (hl : ts.length = tl.length) :
    ∀ (qs : List Nat) (ql : List Oper) (listed listed' : Array Bool) (a : Act) (w : World), (∀ i ∈ qs, i ∈ qs0) → (∀ k ∈ qb, listed.getD k false = true) → ql = qs.filterMap (ops[·]?) → Clo ops listed → lexQ ops qs listed = some listed' → seqT ops ts listed' = true → Ex w0 w →
      wpM P ops w0 (fun a' => ∀ w', Ex w0 w' → wpT P ops Q tl a' w') ql a → anyX P ops qs0 qb Q (qs.length + ts.length) listed a w
  | [], ql, listed, listed', a, w, _, _, hq, hcl, hx, hs, hw, h => by
    subst hq
    simp only [lexQ, Option.some.injEq] at hx
    subst hx
    simp only [List.length_nil, Nat.zero_add]
    exact X_seq ts tl listed a w h1 h2 hl hs (h w hw)
  | i :: qs, ql, listed, listed', a, w, hin, hqb, hq, hcl, hx, hs, hw, h => by
    simp only [lexQ] at hx
    split at hx
    case isFalse => cases hx
    rename_i hb
    simp only [Bool.and_eq_true, List.contains_iff_mem] at hb
    obtain ⟨_, o, ho, _⟩ := mem_ready.1 hb.1
    simp only [List.filterMap_cons, ho] at hq
    subst hq
    have : ∃ v, YE P ops w0 o v a ∧ wpM P ops w0 (fun a' => ∀ w', Ex w0 w' → wpT P ops Q tl a' w') (qs.filterMap (ops[·]?)) (a.put o.dst v) := by
      unfold wpM at h
      split at h
      · rename_i hwd; obtain ⟨v, h3, h4⟩ := h; exact ⟨v, .inl ⟨hwd, h3⟩, h4⟩
      · rename_i hwd; exact ⟨undef, .inr ⟨by simpa using hwd, rfl⟩, h⟩
    obtain ⟨v, hy, h'⟩ := this
    have e : (i :: qs).length + ts.length = (qs.length + ts.length) + 1 := by simp; omega
    rw [e]
    exact X_first ho (hin i (by simp)) (Region.noSelect_spec hsel) _ listed a w hcl hqb (Region.free_spec ho hb.2) hb.1 hy hw fun w' hw' =>
      X_lex hsel ts tl h1 h2 hl qs _ _ listed' _ w' (fun k hk => hin k (by simp [hk])) (fun k hk => getD_set_true (hqb k hk)) rfl (hcl.set hb.1) hx hs (hw.trans hw') h'
theorem X_lexB {qs0 qb : List Nat} {Q : Act → World → Prop} {w : World} (hsel : Region.noSelect ops = true) (n : Nat) (R : Act → Prop) (listed' : Array Bool) (hR : ∀ a, R a → anyX P ops qs0 qb Q n listed' a w) :
    ∀ (qs : List Nat) (ql : List Oper) (listed : Array Bool) (a : Act), (∀ i ∈ qs, i ∈ qb) → ql = qs.filterMap (ops[·]?) → lexQ ops qs listed = some listed' → wpB P ops R ql a → anyX P ops qs0 qb Q (qs.length + n) listed a w
  | [], ql, listed, a, _, hq, hx, h => by
    subst hq
    simp only [lexQ, Option.some.injEq] at hx
    subst hx
    simp only [List.length_nil, Nat.zero_add]
    exact hR a h
  | i :: qs, ql, listed, a, hin, hq, hx, h => by
    simp only [lexQ] at hx
    split at hx
    case isFalse => cases hx
    rename_i hb
    simp only [Bool.and_eq_true, List.contains_iff_mem] at hb
    obtain ⟨_, o, ho, _⟩ := mem_ready.1 hb.1
    simp only [List.filterMap_cons, ho] at hq
    subst hq
    obtain ⟨hg, v, h3, h4⟩ := h
    have e : (i :: qs).length + n = (qs.length + n) + 1 := by simp; omega
    rw [e]
    exact X_firstP ho (hin i (by simp)) (Region.noSelect_spec hsel) _ listed a w (Region.free_spec ho hb.2) hb.1 (.inl ⟨by simp [Region.wanted, hg], h3⟩)
      (X_lexB hsel n R listed' hR qs _ _ _ (fun k hk => hin k (by simp [hk])) rfl hx h4)
theorem lexQ_listed : ∀ (qs : List Nat) (listed listed' : Array Bool), lexQ ops qs listed = some listed' → (∀ k, listed.getD k false = true → listed'.getD k false = true) ∧ ∀ i ∈ qs, listed'.getD i false = true
  | [], listed, listed', h => by simp only [lexQ, Option.some.injEq] at h; subst h; simp
  | i :: qs, listed, listed', h => by
    simp only [lexQ] at h
    split at h
    case isFalse => cases h
    rename_i hb
    simp only [Bool.and_eq_true, List.contains_iff_mem] at hb
    obtain ⟨h1, h2⟩ := lexQ_listed qs _ _ h
    have hi : i < listed.size := by
      have := (mem_ready.1 hb.1).1
      rcases Nat.lt_or_ge i listed.size with h' | h'
      · exact h'
      · rw [Array.getD_eq_getD_getElem?, Array.getElem?_eq_none h'] at this; cases this
    refine ⟨fun k hk => h1 k (getD_set_true hk), fun k hk => ?_⟩
    rcases List.mem_cons.1 hk with rfl | hk
    · exact h1 k (by rw [Array.getD_eq_getD_getElem?]; simp [hi])
    · exact h2 k hk
theorem lexQ_clo : ∀ (qs : List Nat) (listed listed' : Array Bool), lexQ ops qs listed = some listed' → Clo ops listed → Clo ops listed'
  | [], listed, listed', h, hc => by simp only [lexQ, Option.some.injEq] at h; subst h; exact hc
  | i :: qs, listed, listed', h, hc => by
    simp only [lexQ] at h
    split at h
    case isFalse => cases h
    rename_i hb
    simp only [Bool.and_eq_true, List.contains_iff_mem] at hb
    exact lexQ_clo qs _ _ h (hc.set hb.1)
def mixB (ops : Array Oper) (qb qs ts : List Nat) : Bool :=
  Region.noSelect ops && nodef ops.toList && decide (qb.length + (qs.length + ts.length) = ops.size) && match lexQ ops qb (Array.replicate ops.size false) with
    | some l1 => match lexQ ops qs l1 with
      | some l2 => seqT ops ts l2
      | none => false
    | none => false
theorem wp_mix {ρ : Option Nat} {id : Nat} {Q : Exit → Act → World → Prop} {a : Act} {w : World} (qb qs ts : List Nat) (bl ql : List Oper) (tl : List (Bool × Oper)) (hm : P.follows .mixedOrders = true) (hB : mixB ops qb qs ts = true)
    (hb : bl = qb.filterMap (ops[·]?)) (hq : ql = qs.filterMap (ops[·]?)) (h1 : (tl.map fun p => p.2) = ts.filterMap (ops[·]?)) (h2 : (tl.map fun p => p.1) = ts.map (flg ops qs qb)) (hl : ts.length = tl.length)
    (h : wpB P ops (fun a' => wpM P ops w (fun a' => ∀ w', Ex w w' → wpT P ops (Q .normal) tl a' w') ql a') bl a) : (Code.region id ops true).wpIn (Fr ρ) 1 P Q a w := by
  simp only [mixB, Bool.and_eq_true, decide_eq_true_eq] at hB
  obtain ⟨⟨⟨hsel, hnd⟩, hsz⟩, hB⟩ := hB
  split at hB
  case h_2 => cases hB
  rename_i l1 hx1
  split at hB
  case h_2 => cases hB
  rename_i l2 hx2
  have hcl : Clo ops (Array.replicate ops.size false) := fun j oj _ hl => by
    rw [Array.getD_eq_getD_getElem?] at hl
    by_cases hj : j < ops.size
    · simp [hj] at hl
    · simp [hj] at hl
  have hx := X_lexB (P := P) (Q := Q .normal) (qs0 := qs) (qb := qb) (w := { w with drawn := w.drawn + 1 }) hsel (qs.length + ts.length) _ l1
    (fun a' ha => X_lex (P := P) (Q := Q .normal) (w0 := w) hsel ts tl h1 h2 hl qs ql l1 l2 a' { w with drawn := w.drawn + 1 } (fun _ h => h) (lexQ_listed qb _ _ hx1).2 hq (lexQ_clo qb _ _ hx1 hcl) hx2 hB (Ex.refl w).drew ha)
    qb bl _ a (fun _ h => h) hb hx1 h
  rw [hsz] at hx
  refine wpIn_region_any hm (any_in (nodef_get hnd) ?_ (fun a w h => h) _ _ _ _ (any_of_X _ _ _ _ hx))
  intro e a w hq
  cases e <;> first | exact hq | exact hq.elim
end mix

section mixwalk
variable {P : Program} {w : World} {ol rest : List Oper} {R : Act → Prop} {l : St} {ty : TypeId} {pos : String} {af : Array Edge}
def WM (P : Program) (w0 : World) (ol : List Oper) (R : Act → Prop) (rest : List Oper) (l : St) : Prop := wpM P ol.toArray w0 R rest (act l)
def WT (P : Program) (ol : List Oper) (Q : Act → World → Prop) (tl : List (Bool × Oper)) (l : St) (w : World) : Prop := wpT P ol.toArray Q tl (act l) w
def sel : List Bool → List Oper → List Oper
  | true :: m, o :: r => o :: sel m r
  | false :: m, _ :: r => sel m r
  | [], _ => []
  | true :: _, [] => []
  | false :: _, [] => []
def selT : List (Option Bool) → List Oper → List (Bool × Oper)
  | some s :: m, o :: r => (s, o) :: selT m r
  | none :: m, _ :: r => selT m r
  | [], _ => []
  | some _ :: _, [] => []
  | none :: _, [] => []
def WB (P : Program) (ol : List Oper) (R : Act → Prop) (rest : List Oper) (l : St) : Prop := wpB P ol.toArray R rest (act l)
theorem WB_nil {tl : List (Bool × Oper)} {Q : Act → World → Prop} {ql : List Oper} (h : WM P w ol (fun a' => ∀ w', Ex w w' → wpT P ol.toArray Q tl a' w') ql l) : WB P ol (fun a' => wpM P ol.toArray w (fun a' => ∀ w', Ex w w' → wpT P ol.toArray Q tl a' w') ql a') [] l := h
theorem WB_op {o : Oper} {d : Nat} {v : Value} (hg : o.guard = none) (hd : o.dst = some d) (hr : ∀ w', Runs P o l w' v) (k : WB P ol R rest (upd l d v)) : WB P ol R (o :: rest) l := by
  unfold WB wpB
  refine ⟨hg, v, fun w' => ?_, ?_⟩
  · rw [eval_act]; exact hr w'
  · rw [hd, put_act]; exact k
theorem c_mix {ρ : Option Nat} {id : Nat} {Q : Exit → Act → World → Prop} (qb qs ts : List Nat) (mb m : List Bool) (tm : List (Option Bool)) {bl ql : List Oper} {tl : List (Bool × Oper)} [hm : Mixed P]
    (hB : mixB ol.toArray qb qs ts = true) (k0 : sel mb ol = qb.filterMap (ol[·]?)) (k1 : sel m ol = qs.filterMap (ol[·]?)) (k2 : ((selT tm ol).map fun p => p.2) = ts.filterMap (ol[·]?)) (k3 : ((selT tm ol).map fun p => p.1) = ts.map (flg ol.toArray qs qb)) (k4 : ts.length = (selT tm ol).length)
    (e0 : sel mb ol = bl) (e1 : sel m ol = ql) (e2 : selT tm ol = tl) (h : WB P ol (fun a' => wpM P ol.toArray w (fun a' => ∀ w', Ex w w' → wpT P ol.toArray (Q .normal) tl a' w') ql a') bl l) : C ρ P (.region id ol.toArray true) Q l w := by
  subst e0; subst e1; subst e2
  exact wp_mix qb qs ts (sel mb ol) (sel m ol) (selT tm ol) hm.out hB (by simpa using k0) (by simpa using k1) (by simpa using k2) k3 k4 h
theorem WM_nil {Q : Act → World → Prop} {tl : List (Bool × Oper)} (h : ∀ w', Ex w w' → WT P ol Q tl l w') : WM P w ol (fun a' => ∀ w', Ex w w' → wpT P ol.toArray Q tl a' w') [] l := h
theorem WM_op {o : Oper} {d : Nat} {v : Value} (hg : o.guard = none) (hd : o.dst = some d) (hr : ∀ w', Ex w w' → Runs P o l w' v) (k : WM P w ol R rest (upd l d v)) : WM P w ol R (o :: rest) l := by
  unfold WM wpM
  rw [if_pos (by simp [Region.wanted, hg])]
  refine ⟨v, fun w' hw' => ?_, ?_⟩
  · rw [eval_act]
    have := hr w' hw'
    unfold Runs at this
    rw [this]
    exact ⟨rfl, rfl⟩
  · rw [hd, put_act]; exact k
theorem WM_pass {o : Oper} {j dj d : Nat} {want b : Bool} (hg : o.guard = some (j, want)) (hj : dstAt ol j = some dj) (hv : nth l dj = .bool b) (hne : (b == want) = false) (hd : o.dst = some d)
    (k : WM P w ol R rest (upd l d undef)) : WM P w ol R (o :: rest) l := by
  unfold WM wpM
  rw [wanted_of hg hj hv, hne, hd, put_act]
  exact k
theorem WM_passU {o : Oper} {j dj d : Nat} {want : Bool} (hg : o.guard = some (j, want)) (hj : dstAt ol j = some dj) (hv : nth l dj = undef) (hd : o.dst = some d)
    (k : WM P w ol R rest (upd l d undef)) : WM P w ol R (o :: rest) l := by
  unfold WM wpM
  rw [wanted_undef hg hj hv, hd, put_act]
  exact k
theorem WM_take {od : Option Nat} {op : Op} {T : TypeId} {pos : String} {af : Array Edge} {j dj : Nat} {want b : Bool} (hj : dstAt ol j = some dj) (hv : nth l dj = .bool b) (hne : (b == want) = true)
    (k : WM P w ol R (⟨od, op, T, pos, af, none⟩ :: rest) l) : WM P w ol R (⟨od, op, T, pos, af, some (j, want)⟩ :: rest) l := by
  unfold WM wpM at *
  rw [wanted_of (j := j) (want := want) rfl hj hv, hne, if_pos rfl]
  rw [if_pos (show Region.wanted _ _ = true from rfl)] at k
  exact k
theorem WM_split {od : Option Nat} {op : Op} {T : TypeId} {pos : String} {af : Array Edge} {j dj : Nat} {want : Bool} {p : Prop} {_ : Decidable p} (_hj : dstAt ol j = some dj) (hv : nth l dj = .bool (decide p))
    (ht : p → WM P w ol R (⟨od, op, T, pos, af, some (j, want)⟩ :: rest) (upd l dj (.bool true))) (hf : ¬ p → WM P w ol R (⟨od, op, T, pos, af, some (j, want)⟩ :: rest) (upd l dj (.bool false))) :
    WM P w ol R (⟨od, op, T, pos, af, some (j, want)⟩ :: rest) l := by
  unfold WM at *
  by_cases hp : p
  · have := ht hp
    rwa [act_self l dj (.bool true) (by simpa [hp] using hv)] at this
  · have := hf hp
    rwa [act_self l dj (.bool false) (by simpa [hp] using hv)] at this
theorem WM_callv {d : Nat} {f : FuncId} {xs : List Operand} {vs : List Value} {tys : Array TypeId} {T : TypeId} {u : Value} [Fun P f]
    (hc : ∀ w', Ex w w' → Ret P f vs w' fun v _ => v = u) (hx : evs l xs = vs) (k : WM P w ol R rest (upd l d u)) :
    WM P w ol R (⟨some d, .call { callee := .value (.func f), args := xs.toArray, argTypes := tys }, T, pos, af, none⟩ :: rest) l := by
  unfold WM wpM
  rw [if_pos (show Region.wanted _ _ = true from rfl)]
  refine ⟨u, fun w' hw' => ?_, ?_⟩
  · rw [eval_act]
    have hrun : (execOp (ev l) ⟨some d, .call { callee := .value (.func f), args := xs.toArray, argTypes := tys }, T, pos, af, none⟩).run P w' = .ok (.enter f vs.toArray) w' := by
      have := run_call (P := P) (f := f) (vs := vs) (w := w') (first := #[]) (captured := #[])
      simp only [execOp, resolve, List.map_toArray, map_evs, hx, ev]
      simpa using this
    rw [hrun]
    refine ⟨rfl, Calls.mono (hc w' hw') ?_⟩
    rintro e w2 ⟨v, rfl, rfl, h2⟩
    exact ⟨rfl, h2⟩
  · show wpM P ol.toArray w R rest ((act l).put (some d) u)
    rw [put_act]; exact k
theorem WM_indexInt {kk : IntKind} {d : Nat} {x ix : Operand} {T e : TypeId} {v : Value} {i : Nat} {k : IntKind} {z : Value} {b : Nat} {xs : List Int} [h : Und P T (.slice e)] [hs : Sz P e z 1 b] (hx : ev l x = v) (hv : IntsK kk w v xs) (hi : ev l ix = .int k (i : Int)) (hlt : i < xs.length)
    (K : ∀ p, w.cell? p = some (.int kk (xs.getD i 0)) → WM P w ol R rest (upd l d (.pointer (some p)))) : WM P w ol R (⟨some d, .indexAddr T x ix, ty, pos, af, none⟩ :: rest) l := by
  obtain ⟨_, a, cap, rfl, hc, hm, hall⟩ := hv
  obtain ⟨p, u, rfl, h1, h2⟩ := hall i hlt
  refine WM_op rfl rfl (v := .pointer (some (p.add i))) (fun w' _ => ?_) (K _ ?_)
  · have := r_indexAddr (P := P) (T := T) (od := some d) (ty := ty) (pos := pos) (af := af) (w := w') (e := e) hx hi hlt
    rwa [Nat.mul_one] at this
  · have e : xs.getD i 0 = xs[i] := by simp [hlt]
    rw [h1, e]; exact congrArg some h2
theorem WM_indexIntss {d : Nat} {x ix : Operand} {T e : TypeId} {v : Value} {i : Nat} {k : IntKind} {z : Value} {b : Nat} {xs : List (List Int)} {w0 : World} [h : Und P T (.slice e)] [hs : Sz P e z 1 b] (hx : ev l x = v) (hv : Intss w0 v xs) (h0 : Ex w0 w) (hi : ev l ix = .int k (i : Int)) (hlt : i < xs.length)
    (K : ∀ p u, w.cell? p = some u → Ints w0 u (xs.getD i []) → WM P w ol R rest (upd l d (.pointer (some p)))) : WM P w ol R (⟨some d, .indexAddr T x ix, ty, pos, af, none⟩ :: rest) l := by
  obtain ⟨_, a, cap, rfl, hc, hm, hall⟩ := hv
  obtain ⟨p, u, rfl, h1, h2⟩ := hall i hlt
  refine WM_op rfl rfl (v := .pointer (some (p.add i))) (fun w' _ => ?_) (K _ u (h0.cell h1) ?_)
  · have := r_indexAddr (P := P) (T := T) (od := some d) (ty := ty) (pos := pos) (af := af) (w := w') (e := e) hx hi hlt
    rwa [Nat.mul_one] at this
  · have e : xs.getD i [] = xs[i] := by simp [hlt]
    rw [e]; exact h2
theorem WT_nil {Q : Exit → Act → World → Prop} (h : Q .normal (act l) w) : WT P ol (Q .normal) [] l w := h
theorem WT_cons {Q : Act → World → Prop} {s : Bool} {o : Oper} {tl : List (Bool × Oper)} (h : W P ol (QT s w (wpT P ol.toArray Q tl)) [o] l w) : WT P ol Q ((s, o) :: tl) l w := h
theorem t_sink {Q : Act → World → Prop} {tl : List (Bool × Oper)} {w0 : World} (h : WT P ol Q tl l w) : QT true w0 (wpT P ol.toArray Q tl) .normal (act l) w := h
theorem t_keep {Q : Act → World → Prop} {tl : List (Bool × Oper)} {w0 : World} (hx : Ex w0 w) (h : ∀ w'', Ex w w'' → WT P ol Q tl l w'') : QT false w0 (wpT P ol.toArray Q tl) .normal (act l) w := ⟨hx, h⟩
end mixwalk

/-! ### Operations that write memory -/
section mem
variable {P : Program} {Q : Exit → Act → World → Prop} {ol rest : List Oper} {l : St} {w : World} {ty : TypeId} {pos : String} {af : Array Edge} {T : TypeId} {x y : Operand}
theorem zero_cells {z : Value} (hz : z.cells = #[z]) (n : Nat) : ((Array.range n).map (z.cells[· % z.cells.size]!)) = (List.replicate n z).toArray := by
  apply Array.ext'
  simp only [hz, Array.toList_map, Array.toList_range]
  apply List.ext_getElem
  · simp
  · intro i h1 h2
    simp [Nat.mod_one]
theorem fill_row (n : Nat) : ∀ (ps : List (Nat × Value)) (c : List Value), c.length = n → (∀ p ∈ ps, p.1 < n ∧ p.2.oneCell' = true) →
    Instr.fill (fun i => some (i * 1, 1)) c.toArray ps = some (lay c ps).toArray := by
  intro ps c hc h
  refine fill_flat (fun i => some (i * 1, 1)) n (fun i _ => by simp) ps c hc h
/-- []T{..}: a new array. -/
theorem W_buildSlice {d n b : Nat} {e : TypeId} {z : Value} {ps : List (Nat × Operand)} {qs : List (Nat × Value)} {c : List Value} [hT : Und P T (.slice e)] [hz : Sz P e z 1 b] (hq : evps l ps = qs) (hn : 0 < n) (hn2 : n ≤ 16777216) (hz1 : z.cells = #[z]) (hok : partsOk n qs = true) (hc : lay (List.replicate n z) qs = c)
    (K : ∀ b w', Bx w' b c e → Ex w w' → b = w.heap.size → W P ol Q rest (upd l d (.slice (some ⟨b, 0, none⟩) n n)) w') : W P ol Q (⟨some d, .buildSlice T n ps.toArray, ty, pos, af, none⟩ :: rest) l w := by
  refine W_run (w' := w.alloc (.cells c.toArray e)) rfl rfl ?_ (K w.heap.size _ (Bx.new w c e) (Ex.alloc _ _) rfl)
  have hfill := fill_row n qs (List.replicate n z) (by simp) (partsOk_spec hok)
  have h1 : ¬ (n * 1 > 2 ^ 24) := by omega
  have h2 : ¬ (n * 1 = 0) := by omega
  simp only [execOp, Instr.buildSlice, Sem.run_bind, hT.run, hz.run, Result.andThen_ok, List.map_toArray, map_evps, hq, h1, h2, if_false, hz.zero, Sem.run_pure]
  rw [Nat.mul_one, zero_cells hz1, hfill, hc]
  rfl
theorem W_bs1 {d n b i0 : Nat} {x0 : Operand} {v0 : Value} {e : TypeId} {z : Value} {c : List Value} [hT : Und P T (.slice e)] [hz : Sz P e z 1 b] (h0 : ev l x0 = v0) (o0 : v0.oneCell' = true) (hn : 0 < n) (hn2 : n ≤ 16777216) (hz1 : z.cells = #[z]) (hi : (decide (i0 < n)) = true) (hc : lay (List.replicate n z) [(i0, v0)] = c)
    (K : ∀ b w', Bx w' b c e → Ex w w' → b = w.heap.size → W P ol Q rest (upd l d (.slice (some ⟨b, 0, none⟩) n n)) w') : W P ol Q (⟨some d, .buildSlice T n #[(i0, x0)], ty, pos, af, none⟩ :: rest) l w := by
  refine W_buildSlice (qs := [(i0, v0)]) (ps := [(i0, x0)]) (e := e) (z := z) (by simp [evps, h0]) hn hn2 hz1 ?_ hc K
  simp only [decide_eq_true_eq] at hi
  simp [partsOk, o0, hi]
theorem W_bs2 {d n b i0 i1 : Nat} {x0 x1 : Operand} {v0 v1 : Value} {e : TypeId} {z : Value} {c : List Value} [hT : Und P T (.slice e)] [hz : Sz P e z 1 b] (h0 : ev l x0 = v0) (h1 : ev l x1 = v1) (o0 : v0.oneCell' = true) (o1 : v1.oneCell' = true) (hn : 0 < n) (hn2 : n ≤ 16777216) (hz1 : z.cells = #[z]) (hi : (decide (i0 < n) && decide (i1 < n)) = true) (hc : lay (List.replicate n z) [(i0, v0), (i1, v1)] = c)
    (K : ∀ b w', Bx w' b c e → Ex w w' → b = w.heap.size → W P ol Q rest (upd l d (.slice (some ⟨b, 0, none⟩) n n)) w') : W P ol Q (⟨some d, .buildSlice T n #[(i0, x0), (i1, x1)], ty, pos, af, none⟩ :: rest) l w := by
  refine W_buildSlice (qs := [(i0, v0), (i1, v1)]) (ps := [(i0, x0), (i1, x1)]) (e := e) (z := z) (by simp [evps, h0, h1]) hn hn2 hz1 ?_ hc K
  simp only [Bool.and_eq_true, decide_eq_true_eq] at hi
  simp [partsOk, o0, o1, hi]
theorem W_bs3 {d n b i0 i1 i2 : Nat} {x0 x1 x2 : Operand} {v0 v1 v2 : Value} {e : TypeId} {z : Value} {c : List Value} [hT : Und P T (.slice e)] [hz : Sz P e z 1 b] (h0 : ev l x0 = v0) (h1 : ev l x1 = v1) (h2 : ev l x2 = v2) (o0 : v0.oneCell' = true) (o1 : v1.oneCell' = true) (o2 : v2.oneCell' = true) (hn : 0 < n) (hn2 : n ≤ 16777216) (hz1 : z.cells = #[z]) (hi : (decide (i0 < n) && decide (i1 < n) && decide (i2 < n)) = true) (hc : lay (List.replicate n z) [(i0, v0), (i1, v1), (i2, v2)] = c)
    (K : ∀ b w', Bx w' b c e → Ex w w' → b = w.heap.size → W P ol Q rest (upd l d (.slice (some ⟨b, 0, none⟩) n n)) w') : W P ol Q (⟨some d, .buildSlice T n #[(i0, x0), (i1, x1), (i2, x2)], ty, pos, af, none⟩ :: rest) l w := by
  refine W_buildSlice (qs := [(i0, v0), (i1, v1), (i2, v2)]) (ps := [(i0, x0), (i1, x1), (i2, x2)]) (e := e) (z := z) (by simp [evps, h0, h1, h2]) hn hn2 hz1 ?_ hc K
  simp only [Bool.and_eq_true, decide_eq_true_eq] at hi
  simp [partsOk, o0, o1, o2, hi]
theorem W_bs4 {d n b i0 i1 i2 i3 : Nat} {x0 x1 x2 x3 : Operand} {v0 v1 v2 v3 : Value} {e : TypeId} {z : Value} {c : List Value} [hT : Und P T (.slice e)] [hz : Sz P e z 1 b] (h0 : ev l x0 = v0) (h1 : ev l x1 = v1) (h2 : ev l x2 = v2) (h3 : ev l x3 = v3) (o0 : v0.oneCell' = true) (o1 : v1.oneCell' = true) (o2 : v2.oneCell' = true) (o3 : v3.oneCell' = true) (hn : 0 < n) (hn2 : n ≤ 16777216) (hz1 : z.cells = #[z]) (hi : (decide (i0 < n) && decide (i1 < n) && decide (i2 < n) && decide (i3 < n)) = true) (hc : lay (List.replicate n z) [(i0, v0), (i1, v1), (i2, v2), (i3, v3)] = c)
    (K : ∀ b w', Bx w' b c e → Ex w w' → b = w.heap.size → W P ol Q rest (upd l d (.slice (some ⟨b, 0, none⟩) n n)) w') : W P ol Q (⟨some d, .buildSlice T n #[(i0, x0), (i1, x1), (i2, x2), (i3, x3)], ty, pos, af, none⟩ :: rest) l w := by
  refine W_buildSlice (qs := [(i0, v0), (i1, v1), (i2, v2), (i3, v3)]) (ps := [(i0, x0), (i1, x1), (i2, x2), (i3, x3)]) (e := e) (z := z) (by simp [evps, h0, h1, h2, h3]) hn hn2 hz1 ?_ hc K
  simp only [Bool.and_eq_true, decide_eq_true_eq] at hi
  simp [partsOk, o0, o1, o2, o3, hi]
/-- append(s, v) onto a slice of the call's own. -/
theorem W_append {d : Nat} {e : TypeId} {bytes base b c : Nat} {v : Value} {xs : List Int} {m : Int} {w0 : World} [hT : Und P T (.slice e)] [hz : Sz P e (.int .i64 0) 1 bytes]
    (hx : ev l x = v) (hown : Own e base w v xs) (hy : ev l y = .slice (some ⟨b, 0, none⟩) 1 c) (hb : Bx w b [.int .i64 m] e) (hlen : (xs.length + 1) * bytes ≤ 140737488355328 ∧ xs.length + 1 ≤ 9223372036854775807) (h0 : Ex w0 w) (hbase : w0.heap.size ≤ base) (hbase2 : base ≤ w.heap.size)
    (K : ∀ v' w', Own e base w' v' (xs ++ [m]) → Ex w0 w' → Below base w w' → w.grownBy w' v.ownBlock → W P ol Q rest (upd l d v') w') :
    W P ol Q (⟨some d, .call { callee := .builtin .append, args := #[x, y], argTypes := #[T, T] }, ty, pos, af, none⟩ :: rest) l w := by
  obtain ⟨i, h1, h2, h3, h4⟩ := hz.parts
  refine wpList_append_own w rfl x y T rfl base e i (.int .i64 0) 1 bytes hT.out h1 h2 h3 h4 rfl (by decide) v xs.length (xs.map (Value.int .i64)) (by rw [eval_act]; exact hx) hown.2 ⟨b, 0, none⟩ 1 c [.int .i64 m] (by rw [eval_act]; exact hy) rfl hb.cells (by simp [Value.oneCell']) (by unfold maxLen; omega) hlen.1 hbase2 ?_
  intro v' w' hown' hg _
  rw [put_act]
  refine K v' w' ⟨by unfold maxLen; simp; omega, by simpa using hown'⟩ (h0.of_grown hg fun k hk => ?_) ((Below.refl base w).grown hg hbase2 fun k hk => (hown.block k hk).1) hg
  have := hown.block k hk
  omega
/-- []T{v}: v a struct of two cells. -/
theorem W_bsP {d b i0 : Nat} {x0 : Operand} {e : TypeId} {z0 z1 v0 v1 : Value} [hT : Und P T (.slice e)] [hz : Sz P e (.agg #[z0, z1]) 2 b] (hx : ev l x0 = .agg #[v0, v1]) (hi0 : i0 = 0)
    (K : ∀ b w', Bx w' b [v0, v1] e → Ex w w' → b = w.heap.size → W P ol Q rest (upd l d (.slice (some ⟨b, 0, none⟩) 1 1)) w') : W P ol Q (⟨some d, .buildSlice T 1 #[(i0, x0)], ty, pos, af, none⟩ :: rest) l w := by
  subst hi0
  refine W_run (w' := w.alloc (.cells #[v0, v1] e)) rfl rfl ?_ (K w.heap.size _ (Bx.new w [v0, v1] e) (Ex.alloc _ _) rfl)
  have hfill : Instr.fill (fun i => some (i * 2, 2)) ((Array.range (1 * 2)).map ((#[z0, z1] : Array Value)[· % (#[z0, z1] : Array Value).size]!)) [(0, .agg #[v0, v1])] = some #[v0, v1] := by
    have hr : Array.range (1 * 2) = #[0, 1] := by decide
    simp [hr, Instr.fill, Value.cells]
  have h1 : ¬ (1 * 2 > 2 ^ 24) := by decide
  have h2 : ¬ (1 * 2 = 0) := by decide
  simp only [execOp, Instr.buildSlice, Sem.run_bind, hT.run, hz.run, Result.andThen_ok, h1, h2, if_false, hz.zero, Sem.run_pure, List.map_toArray, List.map_cons, List.map_nil, hx, Value.cells]
  rw [hfill]
  rfl
/-- append(s, v) onto a slice of the call's own, the elements pairs. -/
theorem W_appendP {d : Nat} {e : TypeId} {z0 z1 : Value} {bytes base b c : Nat} {v : Value} {xs : List (Int × Int)} {m n : Int} {w0 : World} [hT : Und P T (.slice e)] [hz : Sz P e (.agg #[z0, z1]) 2 bytes]
    (hx : ev l x = v) (hown : OwnP e base w v xs) (hy : ev l y = .slice (some ⟨b, 0, none⟩) 1 c) (hb : Bx w b [.int .i64 m, .int .i64 n] e) (hlen : (xs.length + 1) * bytes ≤ 140737488355328 ∧ xs.length + 1 ≤ 9223372036854775807) (h0 : Ex w0 w) (hbase : w0.heap.size ≤ base) (hbase2 : base ≤ w.heap.size)
    (K : ∀ v' w', OwnP e base w' v' (xs ++ [(m, n)]) → Ex w0 w' → Below base w w' → w.grownBy w' v.ownBlock → W P ol Q rest (upd l d v') w') :
    W P ol Q (⟨some d, .call { callee := .builtin .append, args := #[x, y], argTypes := #[T, T] }, ty, pos, af, none⟩ :: rest) l w := by
  obtain ⟨i, h1, h2, h3, h4⟩ := hz.parts
  refine wpList_append_own w rfl x y T rfl base e i (.agg #[z0, z1]) 2 bytes hT.out h1 h2 h3 h4 rfl (by decide) v xs.length (xs.flatMap pc) (by rw [eval_act]; exact hx) hown.2 ⟨b, 0, none⟩ 1 c [.int .i64 m, .int .i64 n] (by rw [eval_act]; exact hy) rfl hb.cells (by simp [Value.oneCell']) (by unfold maxLen; omega) hlen.1 hbase2 ?_
  intro v' w' hown' hg _
  rw [put_act]
  refine K v' w' ⟨by unfold maxLen; simp; omega, by simpa [pc] using hown'⟩ (h0.of_grown hg fun k hk => ?_) ((Below.refl base w).grown hg hbase2 fun k hk => (hown.2.lt k hk).1) hg
  have := hown.2.lt k hk
  omega
/-- A store into a variable's cell. -/
theorem W_store {b o : Nat} {c : List Value} {T' : TypeId} {v : Value} {z : Value} {bytes : Nat} [hz : Sz P T z 1 bytes] (hx : ev l x = .pointer (some ⟨b, o, none⟩)) (hb : Bx w b c T') (ho : o < c.length) (hy : ev l y = v) (hv : v.oneCell' = true)
    (K : ∀ w', Bx w' b (lset c o v) T' → w.grownBy w' (some b) → W P ol Q rest l w') : W P ol Q (⟨none, .store T x y, ty, pos, af, none⟩ :: rest) l w := by
  have hcell : w.cell? ⟨b, o, none⟩ = some c[o] := by rw [hb.cell]; simp [ho]
  have hfr := hb.frozen o
  have hsz : v.cells = #[v] := cells_one hv
  refine W_skp (w' := w.setCell ⟨b, o, none⟩ v) rfl rfl ?_ (K _ ?_ ?_)
  · have h1 := run_store P w ⟨b, o, none⟩ v .plain hv
    rw [hcell] at h1
    simp only [hfr] at h1
    simp [execOp, hx, hy, Instr.storeAt, Instr.sureAddr, storeVar, hsz, hz.run, storeCells, add_mk, h1]
  · have hlt := hb.lt
    unfold Bx at hb ⊢
    have : (w.heap.modify b fun | .cells c elem frozen => .cells (c.setIfInBounds o v) elem frozen | o => o)[b]? = some (.cells (lset c o v).toArray T' (0, 0)) := by
      rw [Array.getElem?_modify, if_pos rfl, hb]
      simp [← lset_eq]
    exact this
  · exact ⟨rfl, rfl, rfl, by simp [World.setCell], fun k _ hk => Below.heap_setCell _ _ _ _ (fun e => hk (by rw [e]))⟩
theorem run_storeCells_bx (P : Program) (b : Nat) (T' : TypeId) : ∀ (vs : List Value) (pre : List Value) (c : List Value) (w : World), Bx w b (pre ++ c) T' → vs.length = c.length → (∀ v ∈ vs, v.oneCell' = true) →
    ∃ w', (storeCells ⟨b, 0, none⟩ vs pre.length).run P w = .ok () w' ∧ Bx w' b (pre ++ vs) T' ∧ w.grownBy w' (some b)
  | [], pre, c, w, hb, hl, _ => by
    have : c = [] := by cases c <;> simp_all
    subst this
    exact ⟨w, rfl, hb, World.grownBy_refl' w _⟩
  | v :: vs, pre, [], w, hb, hl, _ => by simp at hl
  | v :: vs, pre, u :: c, w, hb, hl, h1 => by
    have hcell : w.cell? ⟨b, pre.length, none⟩ = some u := by rw [hb.cell]; simp
    have hfr := hb.frozen pre.length
    have hst := run_store P w ⟨b, pre.length, none⟩ v .plain (h1 v (by simp))
    rw [hcell] at hst
    simp only [hfr] at hst
    have hb' : Bx (w.setCell ⟨b, pre.length, none⟩ v) b ((pre ++ [v]) ++ c) T' := by
      unfold Bx at hb ⊢
      have : (w.heap.modify b fun | .cells c elem frozen => .cells (c.setIfInBounds pre.length v) elem frozen | o => o)[b]? = some (.cells ((pre ++ [v]) ++ c).toArray T' (0, 0)) := by
        rw [Array.getElem?_modify, if_pos rfl, hb]
        simp
      exact this
    have hg : w.grownBy (w.setCell ⟨b, pre.length, none⟩ v) (some b) := ⟨rfl, rfl, rfl, by simp [World.setCell], fun k _ hk => Below.heap_setCell _ _ _ _ (fun e => hk (by rw [e]))⟩
    obtain ⟨w', h2, h3, h4⟩ := run_storeCells_bx P b T' vs (pre ++ [v]) c _ hb' (by simpa using hl) (fun x hx => h1 x (by simp [hx]))
    refine ⟨w', ?_, by simpa using h3, hg.trans' h4⟩
    simp only [storeCells, Sem.run_bind, add_mk, Nat.zero_add, hst, Bool.false_eq_true, if_false, Result.andThen_ok]
    simpa using h2
def ones : List Value → Prop
  | [] => True
  | v :: r => v.oneCell' = true ∧ ones r
theorem ones_spec : ∀ {vs : List Value}, ones vs → ∀ v ∈ vs, v.oneCell' = true
  | [], _, v, hv => by simp at hv
  | u :: r, h, v, hv => by
    rcases List.mem_cons.1 hv with rfl | hv
    · exact h.1
    · exact ones_spec h.2 v hv
/-- A store of a whole struct or array into its variable. -/
theorem W_storeA {b : Nat} {c cs : List Value} {T' : TypeId} {n bytes : Nat} {z : Value} [hz : Sz P T z n bytes] (hx : ev l x = .pointer (some ⟨b, 0, none⟩)) (hb : Bx w b c T') (hy : ev l y = .agg cs.toArray) (hl : cs.length = c.length) (hn : cs.length = n) (hv : ones cs)
    (K : ∀ w', Bx w' b cs T' → w.grownBy w' (some b) → W P ol Q rest l w') : W P ol Q (⟨none, .store T x y, ty, pos, af, none⟩ :: rest) l w := by
  obtain ⟨w', h1, h2, h3⟩ := run_storeCells_bx P b T' cs [] c w hb hl (ones_spec hv)
  refine W_skp (w' := w') rfl rfl ?_ (K _ (by simpa using h2) h3)
  simp only [List.length_nil] at h1
  simp [execOp, hx, hy, Instr.storeAt, Instr.sureAddr, storeVar, hz.run, Value.cells, hn, h1]
/-- []byte(s). -/
theorem W_convBytes {d : Nat} {src : TypeId} {e : TypeId} {s : ByteArray} [h1 : Und P src .string] [h2 : Und P T (.slice e)] [h3 : Und P e (.int .u8)] (hx : ev l x = .string s) (hs : s.size ≤ maxLen)
    (K : ∀ v w', IntsK .u8 w' v (s.data.toList.map fun b => (b.toNat : Int)) → Ex w w' → W P ol Q rest (upd l d v) w') : W P ol Q (⟨some d, .convert src T x, ty, pos, af, none⟩ :: rest) l w := by
  have hcap : ∀ t, s.size ≤ (Question.appendCap s.size 0 e).cut t := fun t => by simp [Question.cut]
  have hcap2 : ∀ t, (Question.appendCap s.size 0 e).cut t ≤ maxLen := fun t => by
    have hlt := Nat.mod_lt t (show 0 < 2 ^ 63 - s.size by simp only [maxLen] at hs; omega)
    simp only [Question.cut, maxLen] at hs ⊢
    omega
  obtain ⟨cap, w1, hr, hc1, hc2, hw1⟩ : ∃ cap w1, (choose (.appendCap s.size 0 e)).run P w = .ok cap w1 ∧ s.size ≤ cap ∧ cap ≤ maxLen ∧ Ex w w1 := by
    rw [run_choose]
    split
    · rename_i hf; simp [Question.forced] at hf
    · exact ⟨_, _, rfl, hcap _, hcap2 _, (Ex.refl w).drew⟩
  let cells : Array Value := (s.data.map fun b => Value.int .u8 b.toNat) ++ Array.replicate (cap - s.size) (.int .u8 0)
  let w2 := (w1.alloc (.cells cells e)).freeze { block := w1.heap.size, off := cells.size } 1
  have hx2 : Ex w1 w2 := by
    refine ⟨?_, ?_, ?_, ?_, fun k hk => ?_⟩
    · first | (simp [w2, World.freeze]; done) | (simp [w2, World.freeze]; rfl)
    · first | (simp [w2, World.freeze]; done) | (simp [w2, World.freeze]; rfl)
    · first | (simp [w2, World.freeze]; done) | (simp [w2, World.freeze]; rfl)
    · simp [w2, World.freeze]
    · have : (w2.heap)[k]? = (w1.alloc (.cells cells e)).heap[k]? := by
        simp only [w2, World.freeze]
        rw [if_neg (by decide)]
        simp only [Array.getElem?_modify]
        rw [if_neg (by omega)]
      rw [this]
      exact Below.heap_alloc _ _ _ hk
  have hblock : ∃ fr, w2.heap[w1.heap.size]? = some (.cells cells e fr) := by
    refine ⟨(cells.size, cells.size + 1), ?_⟩
    simp only [w2, World.freeze]
    rw [if_neg (by decide)]
    simp only [Array.getElem?_modify, if_true]
    rw [heap_alloc_new]
    rfl
  have hrun : (execOp (ev l) ⟨some d, .convert src T x, ty, pos, af, none⟩).run P w = .ok (.value (.slice (some ⟨w1.heap.size, 0, none⟩) s.size cap)) w2 := by
    have hshape : (w1.alloc (.cells cells e)).shape? w1.heap.size = some (e, cells.size) := by
      simp only [World.shape?]
      rw [heap_alloc_new]
    simp only [execOp, hx, Go.convert, Sem.run_bind, h1.run, h2.run, h3.run, Result.andThen_ok, Conv.stringToBytes, hr, newRow, run_newObj, Sem.run_pure, markStringish, run_shape]
    have e1 : ({ w1 with heap := w1.heap.push (.cells cells e) } : World) = w1.alloc (.cells cells e) := rfl
    simp only [cells] at e1 hshape ⊢
    rw [e1]
    simp only [hshape, Result.andThen_ok, run_freeze]
    rfl
  refine W_run rfl rfl hrun (K _ _ ?_ (hw1.trans hx2))
  obtain ⟨fr, hblock⟩ := hblock
  refine ⟨by simpa using hs, some ⟨w1.heap.size, 0, none⟩, cap, by simp, by simpa using hc1, hc2, fun i hi => ⟨_, _, rfl, ?_, rfl⟩⟩
  rw [add_mk]
  simp only [World.cell?, hblock, Nat.zero_add]
  have hi' : i < s.size := by simpa using hi
  simp only [cells]
  rw [Array.getElem?_append_left (by simpa using hi')]
  simp [hi']
end mem
section res
variable {P : Program} {l : St} {w : World}
theorem p_retc {fn : Func} {t T T' : Nat} {b n bytes : Nat} {c : List Value} {z : Value} {R : Ending → World → Prop} (hd0 : l.ds = []) (hr : fn.results = #[.cell t T]) (h' : Agg P T) (hs : Sz P T z n bytes) (ht : nth l t = .pointer (some ⟨b, 0, none⟩)) (hb : Bx w b c T') (hn : c.length = n) (h : R (.returned (.agg c.toArray)) w) : BP P fn R .ret (act l) w := by
  refine bp_nil (.inl rfl) hd0 ⟨.agg c.toArray, ?_, h⟩
  have h1 := run_loadCells_list (P := P) w ⟨b, 0, none⟩ c hb.cells
  rw [hn] at h1
  obtain ⟨d, h2, hd⟩ := h'.out
  have h3 : Und P T d := ⟨h2⟩
  have h4 : (act l).tmps[t]?.getD undef = .pointer (some ⟨b, 0, none⟩) := by rw [nth_eq]; exact ht
  simp [results, hr, h4, asAddr, loadVar, h3.isAgg, hd, hs.run, h1]
end res
attribute [irreducible] C W Runs WQ WM WB WT Ret Ex Bx IntsK Intss Own Cells Prs OwnP
end Go.Pv
