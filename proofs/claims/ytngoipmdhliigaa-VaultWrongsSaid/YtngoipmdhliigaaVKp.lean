/-
  What this text proves: a range over a function whose iterator says something of each element at the world in which it gives it; what a round leaves as it lay. Over any program.
-/
import Derived.Test.YtngoipmdhliigaaVKo
set_option linter.unusedVariables false
set_option linter.unusedSimpArgs false
namespace Go.Pv
open Go Go.RowKit
/-- An iterator's contract, where it says T of each element at the world of its call of yield. -/
def SeqT {α : Type} (P : Program) (g : Nat) (lb : Array Value) (encs : α → Array Value) (Kp : World → World → Prop) (T : α → World → Prop) (S Sp : List α → Prop) (w : World) : Prop :=
  ∀ (l : Nat) (J Jx : List α → World → Prop) (V : World), Below w.heap.size w V → AbidesFrom V.heap.size J → AbidesFrom V.heap.size Jx →
    (∀ pre x A, J pre A → T x A → YieldAt Fence.wide 1 P l (encs x) A fun e W' =>
      (e = .returned (.bool true) ∧ J (pre ++ [x]) W' ∧ Kp A W') ∨ (e = .returned (.bool false) ∧ Jx (pre ++ [x]) W')) →
    J [] V →
    CallsIn Fence.wide 2 P g (#[.func (.yield l) #[] #[]] ++ lb) V fun e W' => (∃ v, e = .returned v) ∧ ((∃ xs, S xs ∧ J xs W') ∨ (∃ pre, Sp pre ∧ Jx pre W'))
/-- All cells lie as they lay. -/
def KC (X Y : World) : Prop := X.heap.size ≤ Y.heap.size ∧ ∀ (k : Nat) (o : Obj), X.heap[k]? = some o → o.isCells = true → Y.heap[k]? = some o
theorem KC.refl (X : World) : KC X X := ⟨Nat.le_refl _, fun k o h _ => h⟩
theorem KC.trans {X Y Z : World} (h : KC X Y) (k : KC Y Z) : KC X Z := ⟨Nat.le_trans h.1 k.1, fun i o h1 h2 => k.2 i o (h.2 i o h1 h2) h2⟩
theorem KC.grown {X Y : World} {row : Option Nat} (hg : X.grownBy Y row) (hr : ∀ r, row = some r → ∃ o : Obj, X.heap[r]? = some o ∧ o.isCells = false) : KC X Y := by
  refine ⟨hg.size, fun k o h1 h2 => (hg.block k (Array.getElem?_eq_some_iff.1 h1).1 (fun e => ?_)).trans h1⟩
  obtain ⟨o2, h3, h4⟩ := hr k e.symm
  rw [h1] at h3
  cases h3
  rw [h2] at h4
  cases h4
theorem KC.ex {X Y : World} (h : Ex X Y) : KC X Y := KC.grown h.grownBy (by intro r e; cases e)
theorem KC.put {A : World} {i : Nat} {o o' : Obj} (hA : A.heap[i]? = some o) (ho : o.isCells = false) : KC A (A.putObj i o') := KC.grown (grownBy_putObj' A i o') fun r e => by cases e; exact ⟨o, hA, ho⟩
theorem KC.cell {X Y : World} (h : KC X Y) {a : Addr} {v : Value} (hc : X.cell? a = some v) : Y.cell? a = some v := by
  unfold World.cell? at hc ⊢
  split at hc
  · next heq => rw [h.2 _ _ heq rfl]; exact hc
  · cases hc
theorem Prs.kc {w w' : World} {v : Value} {xs : List (Int × Int)} (e : KC w w') (h : Prs w v xs) : Prs w' v xs := by
  unfold Prs at h ⊢
  obtain ⟨h0, a, cap, h1, h2, h3, h4⟩ := h
  refine ⟨h0, a, cap, h1, h2, h3, fun i h => ?_⟩
  obtain ⟨p, h5, h6⟩ := h4 i h
  exact ⟨p, h5, by unfold Cells at h6 ⊢; exact fun j v hj => e.cell (h6 j v hj)⟩
theorem Bx.kc {w w' : World} {b : Nat} {cs : List Value} {T : TypeId} (e : KC w w') (h : Bx w b cs T) : Bx w' b cs T := by
  unfold Bx at *
  exact e.2 _ _ h rfl
section
variable {P : Program} {Q : Exit → Act → World → Prop} {l : St} {w : World} {c : Code}
theorem c_rangeBT {α : Type} {ps : Array Tmp} {g : Operand} {assign body : Code} {gf : Nat} {lb : Array Value} {encs : α → Array Value} {Kp : World → World → Prop} {T : α → World → Prop} {S Sp : List α → Prop}
    (hg : ev l g = .func (.func gf) #[] lb) (eg : ∀ args w, (callFunc gf args).run P w = .ok (.enter gf args) w) (hseq : SeqT P gf lb encs Kp T S Sp w)
    (hKt : ∀ {A B C : World}, Kp A B → Kp B C → Kp A C) (hKb : ∀ (A : World) (i : Nat) (o o' : Obj), w.heap.size ≤ i → A.heap[i]? = some o → o.isCells = false → o.isWalk = false → Kp A (A.putObj i o')) (hps : ∀ x, (encs x).size = ps.size)
    (I : List α → World → Prop) (Ix : Code → List α → World → Prop) (J : List α → α → Act → World → Prop) (hI : OwnFrom w.heap.size I) (hIx : ∀ c, OwnFrom w.heap.size (Ix c)) (hJ : ∀ a, OwnFrom w.heap.size fun (p : List α × α) A => J p.1 p.2 a A) (h0 : I [] w)
    (hassign : ∀ (i : Nat) (pre : List α) (x : α) (A : World), I pre A → T x A → assign.wpIn (Fence.wide.inRound i) 1 P (Exit.then (fun a' A' => J pre x a' A' ∧ KeepsOthers A A' ∧ Kp A A') fun _ _ _ => False)
      { tmps := (ps.zip (encs x)).foldl (fun t (p, v) => t.setIfInBounds p v) (act l).tmps, defers := [] } A)
    (hbody : ∀ (i : Nat) (pre : List α) (x : α) (a' : Act) (A : World), J pre x a' A → body.wpIn (Fence.wide.inRound i) 1 P (ownPostK Kp I Ix (pre ++ [x]) A) a' A)
    (hdone : ∀ (D : Nat) (xs : List α) (A : World), w.heap.size ≤ D → S xs → I xs A → A.heap[D]? = some (.deferred (some [])) → Q .normal (act (mkd D l)) A)
    (hstop : ∀ (D : Nat) (c : Code) (pre : List α) (A : World), w.heap.size ≤ D → Sp pre → Ix c pre A → A.heap[D]? = some (.deferred (some [])) → C none P c Q (mkd D l) A) :
    C none P (.rangeFunc g ps assign body) Q l w := by
  unfold C at *
  refine Fr.any (ρ := none) (n := 3) (wpIn_rangeFunc (F := Fence.wide) fun fn hfn => ?_)
  -- the record of this loop, by its state
  obtain ⟨rc, hrc⟩ : ∃ rc : LoopState → Option Code → Loop, rc = fun st pe => { state := st, pending := pe, fn, tmps := (act l).tmps, params := ps, assign, body, defers := w.heap.size } := ⟨_, rfl⟩
  have hrd : (rc .ready none).state = .ready := by rw [hrc]
  obtain ⟨V, hV⟩ : ∃ V, V = (w.alloc (.deferred (some []))).alloc (.loop (rc .ready none)) := ⟨_, rfl⟩
  have b1 : Below w.heap.size w V := by
    rw [hV]; exact ((Below.refl _ w).alloc (Nat.le_refl _) _).alloc (by simp) _
  have b2 : V.heap[w.heap.size + 1]? = some (.loop (rc .ready none)) := by
    have := World.alloc_heap_new (w.alloc (.deferred (some []))) (.loop (rc .ready none))
    rw [World.size_alloc] at this
    rw [hV]; exact this
  have b3 : V.heap[w.heap.size]? = some (.deferred (some [])) := by
    rw [hV]; exact (Below.heap_alloc _ _ _ (by simp)).trans (World.alloc_heap_new w _)
  have b4 : I [] V := by
    rw [hV]; exact hI _ _ _ none (hI _ _ _ none h0 (World.grownBy_alloc _ _ none) (by intro r e; cases e)) (World.grownBy_alloc _ _ none) (by intro r e; cases e)
  have b5 : V.heap.size = w.heap.size + 2 := by rw [hV]; simp
  refine ⟨w.heap.size + 1, [{ target := .collected w.heap.size, args := #[] }], V, { target := .fn (.func gf) lb, args := #[.func (.yield (w.heap.size + 1)) #[] #[]] }, V, gf,
    #[.func (.yield (w.heap.size + 1)) #[] #[]] ++ lb, V, ?_, ?_, ?_, ?_, (fun h => by cases h), ?_⟩
  · have := run_enterLoop_outer (P := P) (w := w) fn (act l).tmps ps assign body
    rw [hV, hrc]
    exact this
  · have hg' : (act l).eval g = .func (.func gf) #[] lb := by rw [eval_act]; exact hg
    simp only [resolve, hg']
    simp [go_sem]
  · intro f' hf'
    exact trivial
  · simp [invoke, go_sem, eg]
  -- what the iterator is told: the caller's word, the record, the block of the rounds' deferred calls
  refine (hseq (w.heap.size + 1)
    (fun pre A => (I pre A ∧ A.heap[w.heap.size]? = some (.deferred (some []))) ∧ A.heap[w.heap.size + 1]? = some (.loop (rc .ready none)))
    (fun pre A => ∃ c, (Ix c pre A ∧ A.heap[w.heap.size]? = some (.deferred (some []))) ∧ A.heap[w.heap.size + 1]? = some (.loop (rc .done (some c)))) V b1 ?_ ?_ ?_ ⟨⟨b4, b3⟩, b2⟩).mono ?_
  · rintro s A B row ⟨⟨h1, h2⟩, h3⟩ hgr hr
    have hr' : ∀ r, row = some r → w.heap.size ≤ r ∧ ∃ o : Obj, A.heap[r]? = some o ∧ o.isCells = false := fun r e => by
      obtain ⟨q1, o, q2, q3⟩ := hr r e
      exact ⟨by omega, o, q2, Obj.not_cells_of_walk q3⟩
    exact ⟨⟨hI s A B row h1 hgr hr', (grownBy_keeps hgr (fun r e => (hr r e).2) h2 rfl).trans h2⟩, (grownBy_keeps hgr (fun r e => (hr r e).2) h3 rfl).trans h3⟩
  · rintro s A B row ⟨c, ⟨h1, h2⟩, h3⟩ hgr hr
    have hr' : ∀ r, row = some r → w.heap.size ≤ r ∧ ∃ o : Obj, A.heap[r]? = some o ∧ o.isCells = false := fun r e => by
      obtain ⟨q1, o, q2, q3⟩ := hr r e
      exact ⟨by omega, o, q2, Obj.not_cells_of_walk q3⟩
    exact ⟨c, ⟨hIx c s A B row h1 hgr hr', (grownBy_keeps hgr (fun r e => (hr r e).2) h2 rfl).trans h2⟩, (grownBy_keeps hgr (fun r e => (hr r e).2) h3 rfl).trans h3⟩
  · -- a round
    rintro pre x A ⟨⟨h1, h2⟩, h3⟩ hTx
    have hy := run_yield (P := P) (args := encs x) h3 (by rw [hrc]; exact hps x)
    have e1 : (rc .ready none).fn = fn := by rw [hrc]
    have e2 : (rc .ready none).params = ps := by rw [hrc]
    have e3 : (rc .ready none).tmps = (act l).tmps := by rw [hrc]
    have e4 : (rc .ready none).assign = assign := by rw [hrc]
    have e5 : (rc .ready none).body = body := by rw [hrc]
    rw [e1, e2, e3, e4, e5] at hy
    refine ⟨fn, _, assign, body, hy, roundIn_of_wpIn hfn (wpIn_mono (hassign (w.heap.size + 1) pre x A h1 hTx) ?_)⟩
    intro e a1 A1 hp
    cases e with
    | normal =>
      obtain ⟨j1, j2, j3⟩ := hp
      have g3 := j2.same _ _ h3 rfl
      have g2 := j2.same _ _ h2 rfl
      refine ⟨_, run_beginRound g3 hrd, wpIn_mono (hbody (w.heap.size + 1) pre x a1 _ (ownFrom_at (hJ a1) (s := (pre, x)) j1 (by omega) g3 rfl)) ?_⟩
      have lt1 : w.heap.size + 1 < A1.heap.size := (Array.getElem?_eq_some_iff.1 g3).1
      have k3 := World.putObj_heap_same (w := A1) (o := .loop { rc .ready none with state := .busy }) lt1
      have k2 : (A1.putObj (w.heap.size + 1) (.loop { rc .ready none with state := .busy })).heap[w.heap.size]? = some (.deferred (some [])) := (World.putObj_heap_other (by omega)).trans g2
      have kb := hKb A1 (w.heap.size + 1) _ (.loop { rc .ready none with state := .busy }) (by omega) g3 rfl rfl
      -- the round's end, however it is left
      have fin : ∀ (jump : Option Code) (st : LoopState) (B : World), (if jump.isNone then LoopState.ready else .done) = st → KeepsOthers (A1.putObj (w.heap.size + 1) (.loop { rc .ready none with state := .busy })) B →
          ∃ B', (Instr.endRound (w.heap.size + 1) jump).run P B = .ok (.bool jump.isNone) B' ∧ B' = B.putObj (w.heap.size + 1) (.loop (rc st jump)) ∧ B.heap[w.heap.size + 1]? = some (.loop { rc .ready none with state := .busy }) ∧
            B'.heap[w.heap.size + 1]? = some (.loop (rc st jump)) ∧ B'.heap[w.heap.size]? = some (.deferred (some [])) := by
        intro jump st B hst hk
        have m3 := hk.same _ _ k3 rfl
        have := run_endRound (P := P) jump m3
        rw [hst] at this
        have e6 : ({ ({ rc .ready none with state := .busy } : Loop) with state := st, pending := jump } : Loop) = rc st jump := by rw [hrc]
        rw [e6] at this
        exact ⟨_, this, rfl, m3, World.putObj_heap_same (Array.getElem?_eq_some_iff.1 m3).1, (World.putObj_heap_other (by omega)).trans (hk.same _ _ k2 rfl)⟩
      intro e' a2 B hp
      cases e' with
      | normal =>
        obtain ⟨p1, p2, p3⟩ := hp
        obtain ⟨B', q1, rfl, q3, q4, q5⟩ := fin none .ready B rfl p1
        exact ⟨_, _, q1, .inl ⟨rfl, ⟨⟨ownFrom_at hI p3 (by omega) q3 rfl, q5⟩, q4⟩, hKt j3 (hKt kb (hKt p2 (hKb _ _ _ _ (by omega) q3 rfl rfl)))⟩⟩
      | ret =>
        obtain ⟨p1, p3⟩ := hp
        obtain ⟨B', q1, rfl, q3, q4, q5⟩ := fin (some .ret) .done B rfl p1
        exact ⟨_, _, q1, .inr ⟨rfl, _, ⟨ownFrom_at (hIx _) p3 (by omega) q3 rfl, q5⟩, q4⟩⟩
      | exit id =>
        obtain ⟨p1, p3⟩ := hp
        obtain ⟨B', q1, rfl, q3, q4, q5⟩ := fin (some (.exit id)) .done B rfl p1
        exact ⟨_, _, q1, .inr ⟨rfl, _, ⟨ownFrom_at (hIx _) p3 (by omega) q3 rfl, q5⟩, q4⟩⟩
      | goto t =>
        obtain ⟨p1, p3⟩ := hp
        obtain ⟨B', q1, rfl, q3, q4, q5⟩ := fin (some (.goto t)) .done B rfl p1
        exact ⟨_, _, q1, .inr ⟨rfl, _, ⟨ownFrom_at (hIx _) p3 (by omega) q3 rfl, q5⟩, q4⟩⟩
      | panic ch => exact hp.elim
      | outgrown => exact hp.elim
    | ret => exact hp.elim
    | exit id => exact hp.elim
    | goto t => exact hp.elim
    | panic ch => exact hp.elim
    | outgrown => exact hp.elim
  · -- behind the iterator
    rintro e A ⟨⟨v, rfl⟩, (⟨xs, hS, ⟨h1, h2⟩, h3⟩ | ⟨pre, hSp, c, ⟨h1, h2⟩, h3⟩)⟩
    · have := run_endLoop (P := P) h3 (by rw [hrd]; simp)
      have e7 : (rc .ready none).pending = none := by rw [hrc]
      rw [e7] at this
      exact ⟨none, _, this, hdone _ xs _ (Nat.le_refl _) hS (ownFrom_at hI h1 (by omega) h3 rfl) ((World.putObj_heap_other (by omega)).trans h2)⟩
    · have hdn : (rc .done (some c)).state ≠ .busy := by rw [hrc]; simp
      have := run_endLoop (P := P) h3 hdn
      have e7 : (rc .done (some c)).pending = some c := by rw [hrc]
      rw [e7] at this
      exact ⟨some c, _, this, Fr.any (ρ := none) (hstop _ c pre _ (Nat.le_refl _) hSp (ownFrom_at (hIx c) h1 (by omega) h3 rfl) ((World.putObj_heap_other (by omega)).trans h2))⟩
theorem c_rangeT {α : Type} {ps : List Tmp} {g : Operand} {assign body : Code} {gf : Nat} {lb : Array Value} {vs : α → List Value} {Kp : World → World → Prop} {T : α → World → Prop} {S Sp : List α → Prop} {B : Nat}
    (hg : ev l g = .func (.func gf) #[] lb) (eg : ∀ args w, (callFunc gf args).run P w = .ok (.enter gf args) w) (hseq : SeqT P gf lb (fun x => (vs x).toArray) Kp T S Sp w)
    (hKt : ∀ {A B C : World}, Kp A B → Kp B C → Kp A C) (hKb : ∀ (A : World) (i : Nat) (o o' : Obj), w.heap.size ≤ i → A.heap[i]? = some o → o.isCells = false → o.isWalk = false → Kp A (A.putObj i o')) (hps : ∀ x, (vs x).length = ps.length)
    (hal : Al B w l.ds) (hB : B ≤ w.heap.size)
    (I : List α → World → Prop) (Ix : Code → List α → World → Prop) (J : List α → α → St → World → Prop) (hI : OwnFrom w.heap.size I) (hIx : ∀ c, OwnFrom w.heap.size (Ix c)) (hJ : ∀ l', OwnFrom w.heap.size fun (p : List α × α) A => J p.1 p.2 l' A) (h0 : I [] w)
    (hassign : ∀ (i : Nat) (pre : List α) (x : α) (A : World), I pre A → T x A → C (some i) P assign (Exit.then (fun a' A' => ∃ l', a' = act l' ∧ J pre x l' A' ∧ KeepsOthers A A' ∧ Kp A A') fun _ _ _ => False) (upds (rnd l) ps (vs x)) A)
    (hbody : ∀ (i : Nat) (pre : List α) (x : α) (l' : St) (A : World), J pre x l' A → C (some i) P body (ownPostK Kp I Ix (pre ++ [x]) A) l' A)
    (hdone : ∀ (D : Nat) (xs : List α) (A : World), w.heap.size ≤ D → S xs → I xs A → Al B A (D :: l.ds) → Q .normal (act (mkd D l)) A)
    (hstop : ∀ (D : Nat) (c : Code) (pre : List α) (A : World), w.heap.size ≤ D → Sp pre → Ix c pre A → Al B A (D :: l.ds) → C none P c Q (mkd D l) A) :
    C none P (.rangeFunc g ps.toArray assign body) Q l w := by
  have hal0 : AlH l.ds w := fun D hD => (hal.2 D hD).2
  refine c_rangeBT (encs := fun x => (vs x).toArray) hg eg hseq hKt hKb (fun x => by simpa using hps x) (fun pre A => I pre A ∧ AlH l.ds A) (fun c pre A => Ix c pre A ∧ AlH l.ds A) (fun pre x a A => (∃ l', a = act l' ∧ J pre x l' A) ∧ AlH l.ds A)
    (hI.and hal0.from) (fun c => (hIx c).and hal0.from) ?_ ⟨h0, hal0⟩ ?_ ?_ ?_ ?_
  · rintro a s A B row ⟨⟨l', rfl, h⟩, h2⟩ hg' hr
    exact ⟨⟨l', rfl, hJ l' s A B row h hg' hr⟩, hal0.from s A B row h2 hg' hr⟩
  · intro i pre x A h1 h2
    have := hassign i pre x A h1.1 h2
    unfold C at this
    have e := put_upds ps (vs x) (rnd l)
    have e2 : (({ tmps := (ps.toArray.zip (vs x).toArray).foldl (fun t (p, v) => t.setIfInBounds p v) (act l).tmps, defers := [] }) : Act) = act (upds (rnd l) ps (vs x)) := by
      rw [← e]
      simp [act, rnd]
    rw [e2]
    refine wpIn_mono this ?_
    intro e a w hh
    cases e <;> first | exact hh.elim | skip
    obtain ⟨l', rfl, h3, h4, h5⟩ := hh
    exact ⟨⟨⟨l', rfl, h3⟩, h1.2.keep h4⟩, h4, h5⟩
  · rintro i pre x a A ⟨⟨l', rfl, h⟩, h2⟩
    have := hbody i pre x l' A h
    unfold C at this
    refine wpIn_mono this ?_
    intro e a w hh
    cases e with
    | normal => exact ⟨hh.1, hh.2.1, hh.2.2, h2.keep hh.1⟩
    | ret => exact ⟨hh.1, hh.2, h2.keep hh.1⟩
    | exit id => exact ⟨hh.1, hh.2, h2.keep hh.1⟩
    | goto t => exact ⟨hh.1, hh.2, h2.keep hh.1⟩
    | panic ch => exact hh.elim
    | outgrown => exact hh.elim
  · intro D xs A h1 h2 h3 h4
    exact hdone D xs A h1 h2 h3.1 (hal.cons hB h1 h3.2 h4)
  · intro D c pre A h1 h2 h3 h4
    exact hstop D c pre A h1 h2 h3.1 (hal.cons hB h1 h3.2 h4)
end
end Go.Pv
