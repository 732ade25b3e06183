/-
  (heavy) What this text proves: a range over a function whose iterator says something of each element, and of those before it, at the world in which it gives it; what a round leaves as it lay; a region that draws its order and in which an operation calls yield. Over any program.
-/
import Derived.Test.YtlphfobpheefkaaZ
set_option linter.unusedVariables false
set_option linter.unusedSimpArgs false
namespace Go.Pv
open Go Go.RowKit
/-- An iterator's contract, where it says T of each element at the world of its call of yield. -/
def SeqP {α : Type} (P : Program) (g : Nat) (lb : Array Value) (encs : α → Array Value) (Kp : World → World → Prop) (T : List α → α → World → Prop) (S Sp : List α → Prop) (w : World) : Prop :=
  ∀ (l : Nat) (J Jx : List α → World → Prop) (V : World), Below w.heap.size w V → AbidesFrom V.heap.size J → AbidesFrom V.heap.size Jx →
    (∀ pre x A, J pre A → T pre x A → YieldAt Fence.wide 1 P l (encs x) A fun e W' =>
      (e = .returned (.bool true) ∧ J (pre ++ [x]) W' ∧ Kp A W') ∨ (e = .returned (.bool false) ∧ Jx (pre ++ [x]) W')) →
    J [] V →
    CallsIn Fence.wide 2 P g (#[.func (.yield l) #[] #[]] ++ lb) V fun e W' => (∃ v, e = .returned v) ∧ ((∃ xs, S xs ∧ J xs W') ∨ (∃ pre, Sp pre ∧ Jx pre W'))
/-- All cells lie as they lay. -/
def KC (X Y : World) : Prop := X.heap.size ≤ Y.heap.size ∧ ∀ (k : Nat) (o : Obj), X.heap[k]? = some o → o.isCells = true → Y.heap[k]? = some o
theorem KC.refl (X : World) : KC X X := ⟨Nat.le_refl _, fun k o h _ => h⟩
theorem KC.trans {X Y Z : World} (h : KC X Y) (k : KC Y Z) : KC X Z := ⟨Nat.le_trans h.1 k.1, fun i o h1 h2 => k.2 i o (h.2 i o h1 h2) h2⟩
theorem KC.grown {X Y : World} {row : Option Nat} (hg : X.grownBy Y row) (hr : ∀ r, row = some r → ∃ o : Obj, X.heap[r]? = some o ∧ o.isCells = false) : KC X Y := by
  refine ⟨hg.size, fun k o h1 h2 => (hg.block k (Array.getElem?_eq_some_iff.1 h1).1 (fun e => ?_)).trans h1⟩
  obtain ⟨o2, h3, h4⟩ := hr k e.symm
  rw [h1] at h3
  cases h3
  rw [h2] at h4
  cases h4
theorem KC.ex {X Y : World} (h : Ex X Y) : KC X Y := KC.grown h.grownBy (by intro r e; cases e)
theorem KC.put {A : World} {i : Nat} {o o' : Obj} (hA : A.heap[i]? = some o) (ho : o.isCells = false) : KC A (A.putObj i o') := KC.grown (grownBy_putObj' A i o') fun r e => by cases e; exact ⟨o, hA, ho⟩
theorem KC.cell {X Y : World} (h : KC X Y) {a : Addr} {v : Value} (hc : X.cell? a = some v) : Y.cell? a = some v := by
  unfold World.cell? at hc ⊢
  split at hc
  · next heq => rw [h.2 _ _ heq rfl]; exact hc
  · cases hc
theorem Prs.kc {w w' : World} {v : Value} {xs : List (Int × Int)} (e : KC w w') (h : Prs w v xs) : Prs w' v xs := by
  unfold Prs at h ⊢
  obtain ⟨h0, a, cap, h1, h2, h3, h4⟩ := h
  refine ⟨h0, a, cap, h1, h2, h3, fun i h => ?_⟩
  obtain ⟨p, h5, h6⟩ := h4 i h
  exact ⟨p, h5, by unfold Cells at h6 ⊢; exact fun j v hj => e.cell (h6 j v hj)⟩
theorem Bx.kc {w w' : World} {b : Nat} {cs : List Value} {T : TypeId} (e : KC w w') (h : Bx w b cs T) : Bx w' b cs T := by
  unfold Bx at *
  exact e.2 _ _ h rfl
section
variable {P : Program} {Q : Exit → Act → World → Prop} {l : St} {w : World} {c : Code}
theorem c_rangeBP {α : Type} {ps : Array Tmp} {g : Operand} {assign body : Code} {gf : Nat} {lb : Array Value} {encs : α → Array Value} {Kp : World → World → Prop} {T : List α → α → World → Prop} {S Sp : List α → Prop}
    (hg : ev l g = .func (.func gf) #[] lb) (eg : ∀ args w, (callFunc gf args).run P w = .ok (.enter gf args) w) (hseq : SeqP P gf lb encs Kp T S Sp w)
    (hKt : ∀ {A B C : World}, Kp A B → Kp B C → Kp A C) (hKb : ∀ (A : World) (i : Nat) (o o' : Obj), w.heap.size ≤ i → A.heap[i]? = some o → o.isCells = false → o.isWalk = false → Kp A (A.putObj i o')) (hps : ∀ x, (encs x).size = ps.size)
    (I : List α → World → Prop) (Ix : Code → List α → World → Prop) (J : List α → α → Act → World → Prop) (hI : OwnFrom w.heap.size I) (hIx : ∀ c, OwnFrom w.heap.size (Ix c)) (hJ : ∀ a, OwnFrom w.heap.size fun (p : List α × α) A => J p.1 p.2 a A) (h0 : I [] w)
    (hassign : ∀ (i : Nat) (pre : List α) (x : α) (A : World), I pre A → T pre x A → assign.wpIn (Fence.wide.inRound i) 1 P (Exit.then (fun a' A' => J pre x a' A' ∧ KeepsOthers A A' ∧ Kp A A') fun _ _ _ => False)
      { tmps := (ps.zip (encs x)).foldl (fun t (p, v) => t.setIfInBounds p v) (act l).tmps, defers := [] } A)
    (hbody : ∀ (i : Nat) (pre : List α) (x : α) (a' : Act) (A : World), J pre x a' A → body.wpIn (Fence.wide.inRound i) 1 P (ownPostK Kp I Ix (pre ++ [x]) A) a' A)
    (hdone : ∀ (D : Nat) (xs : List α) (A : World), w.heap.size ≤ D → S xs → I xs A → A.heap[D]? = some (.deferred (some [])) → Q .normal (act (mkd D l)) A)
    (hstop : ∀ (D : Nat) (c : Code) (pre : List α) (A : World), w.heap.size ≤ D → Sp pre → Ix c pre A → A.heap[D]? = some (.deferred (some [])) → C none P c Q (mkd D l) A) :
    C none P (.rangeFunc g ps assign body) Q l w := by
  unfold C at *
  refine Fr.any (ρ := none) (n := 3) (wpIn_rangeFunc (F := Fence.wide) fun fn hfn => ?_)
  -- the record of this loop, by its state
  obtain ⟨rc, hrc⟩ : ∃ rc : LoopState → Option Code → Loop, rc = fun st pe => { state := st, pending := pe, fn, tmps := (act l).tmps, params := ps, assign, body, defers := w.heap.size } := ⟨_, rfl⟩
  have hrd : (rc .ready none).state = .ready := by rw [hrc]
  obtain ⟨V, hV⟩ : ∃ V, V = (w.alloc (.deferred (some []))).alloc (.loop (rc .ready none)) := ⟨_, rfl⟩
  have b1 : Below w.heap.size w V := by
    rw [hV]; exact ((Below.refl _ w).alloc (Nat.le_refl _) _).alloc (by simp) _
  have b2 : V.heap[w.heap.size + 1]? = some (.loop (rc .ready none)) := by
    have := World.alloc_heap_new (w.alloc (.deferred (some []))) (.loop (rc .ready none))
    rw [World.size_alloc] at this
    rw [hV]; exact this
  have b3 : V.heap[w.heap.size]? = some (.deferred (some [])) := by
    rw [hV]; exact (Below.heap_alloc _ _ _ (by simp)).trans (World.alloc_heap_new w _)
  have b4 : I [] V := by
    rw [hV]; exact hI _ _ _ none (hI _ _ _ none h0 (World.grownBy_alloc _ _ none) (by intro r e; cases e)) (World.grownBy_alloc _ _ none) (by intro r e; cases e)
  have b5 : V.heap.size = w.heap.size + 2 := by rw [hV]; simp
  refine ⟨w.heap.size + 1, [{ target := .collected w.heap.size, args := #[] }], V, { target := .fn (.func gf) lb, args := #[.func (.yield (w.heap.size + 1)) #[] #[]] }, V, gf,
    #[.func (.yield (w.heap.size + 1)) #[] #[]] ++ lb, V, ?_, ?_, ?_, ?_, (fun h => by cases h), ?_⟩
  · have := run_enterLoop_outer (P := P) (w := w) fn (act l).tmps ps assign body
    rw [hV, hrc]
    exact this
  · have hg' : (act l).eval g = .func (.func gf) #[] lb := by rw [eval_act]; exact hg
    simp only [resolve, hg']
    simp [go_sem]
  · intro f' hf'
    exact trivial
  · simp [invoke, go_sem, eg]
  -- what the iterator is told: the caller's word, the record, the block of the rounds' deferred calls
  refine (hseq (w.heap.size + 1)
    (fun pre A => (I pre A ∧ A.heap[w.heap.size]? = some (.deferred (some []))) ∧ A.heap[w.heap.size + 1]? = some (.loop (rc .ready none)))
    (fun pre A => ∃ c, (Ix c pre A ∧ A.heap[w.heap.size]? = some (.deferred (some []))) ∧ A.heap[w.heap.size + 1]? = some (.loop (rc .done (some c)))) V b1 ?_ ?_ ?_ ⟨⟨b4, b3⟩, b2⟩).mono ?_
  · rintro s A B row ⟨⟨h1, h2⟩, h3⟩ hgr hr
    have hr' : ∀ r, row = some r → w.heap.size ≤ r ∧ ∃ o : Obj, A.heap[r]? = some o ∧ o.isCells = false := fun r e => by
      obtain ⟨q1, o, q2, q3⟩ := hr r e
      exact ⟨by omega, o, q2, Obj.not_cells_of_walk q3⟩
    exact ⟨⟨hI s A B row h1 hgr hr', (grownBy_keeps hgr (fun r e => (hr r e).2) h2 rfl).trans h2⟩, (grownBy_keeps hgr (fun r e => (hr r e).2) h3 rfl).trans h3⟩
  · rintro s A B row ⟨c, ⟨h1, h2⟩, h3⟩ hgr hr
    have hr' : ∀ r, row = some r → w.heap.size ≤ r ∧ ∃ o : Obj, A.heap[r]? = some o ∧ o.isCells = false := fun r e => by
      obtain ⟨q1, o, q2, q3⟩ := hr r e
      exact ⟨by omega, o, q2, Obj.not_cells_of_walk q3⟩
    exact ⟨c, ⟨hIx c s A B row h1 hgr hr', (grownBy_keeps hgr (fun r e => (hr r e).2) h2 rfl).trans h2⟩, (grownBy_keeps hgr (fun r e => (hr r e).2) h3 rfl).trans h3⟩
  · -- a round
    rintro pre x A ⟨⟨h1, h2⟩, h3⟩ hTx
    have hy := run_yield (P := P) (args := encs x) h3 (by rw [hrc]; exact hps x)
    have e1 : (rc .ready none).fn = fn := by rw [hrc]
    have e2 : (rc .ready none).params = ps := by rw [hrc]
    have e3 : (rc .ready none).tmps = (act l).tmps := by rw [hrc]
    have e4 : (rc .ready none).assign = assign := by rw [hrc]
    have e5 : (rc .ready none).body = body := by rw [hrc]
    rw [e1, e2, e3, e4, e5] at hy
    refine ⟨fn, _, assign, body, hy, roundIn_of_wpIn hfn (wpIn_mono (hassign (w.heap.size + 1) pre x A h1 hTx) ?_)⟩
    intro e a1 A1 hp
    cases e with
    | normal =>
      obtain ⟨j1, j2, j3⟩ := hp
      have g3 := j2.same _ _ h3 rfl
      have g2 := j2.same _ _ h2 rfl
      refine ⟨_, run_beginRound g3 hrd, wpIn_mono (hbody (w.heap.size + 1) pre x a1 _ (ownFrom_at (hJ a1) (s := (pre, x)) j1 (by omega) g3 rfl)) ?_⟩
      have lt1 : w.heap.size + 1 < A1.heap.size := (Array.getElem?_eq_some_iff.1 g3).1
      have k3 := World.putObj_heap_same (w := A1) (o := .loop { rc .ready none with state := .busy }) lt1
      have k2 : (A1.putObj (w.heap.size + 1) (.loop { rc .ready none with state := .busy })).heap[w.heap.size]? = some (.deferred (some [])) := (World.putObj_heap_other (by omega)).trans g2
      have kb := hKb A1 (w.heap.size + 1) _ (.loop { rc .ready none with state := .busy }) (by omega) g3 rfl rfl
      -- the round's end, however it is left
      have fin : ∀ (jump : Option Code) (st : LoopState) (B : World), (if jump.isNone then LoopState.ready else .done) = st → KeepsOthers (A1.putObj (w.heap.size + 1) (.loop { rc .ready none with state := .busy })) B →
          ∃ B', (Instr.endRound (w.heap.size + 1) jump).run P B = .ok (.bool jump.isNone) B' ∧ B' = B.putObj (w.heap.size + 1) (.loop (rc st jump)) ∧ B.heap[w.heap.size + 1]? = some (.loop { rc .ready none with state := .busy }) ∧
            B'.heap[w.heap.size + 1]? = some (.loop (rc st jump)) ∧ B'.heap[w.heap.size]? = some (.deferred (some [])) := by
        intro jump st B hst hk
        have m3 := hk.same _ _ k3 rfl
        have := run_endRound (P := P) jump m3
        rw [hst] at this
        have e6 : ({ ({ rc .ready none with state := .busy } : Loop) with state := st, pending := jump } : Loop) = rc st jump := by rw [hrc]
        rw [e6] at this
        exact ⟨_, this, rfl, m3, World.putObj_heap_same (Array.getElem?_eq_some_iff.1 m3).1, (World.putObj_heap_other (by omega)).trans (hk.same _ _ k2 rfl)⟩
      intro e' a2 B hp
      cases e' with
      | normal =>
        obtain ⟨p1, p2, p3⟩ := hp
        obtain ⟨B', q1, rfl, q3, q4, q5⟩ := fin none .ready B rfl p1
        exact ⟨_, _, q1, .inl ⟨rfl, ⟨⟨ownFrom_at hI p3 (by omega) q3 rfl, q5⟩, q4⟩, hKt j3 (hKt kb (hKt p2 (hKb _ _ _ _ (by omega) q3 rfl rfl)))⟩⟩
      | ret =>
        obtain ⟨p1, p3⟩ := hp
        obtain ⟨B', q1, rfl, q3, q4, q5⟩ := fin (some .ret) .done B rfl p1
        exact ⟨_, _, q1, .inr ⟨rfl, _, ⟨ownFrom_at (hIx _) p3 (by omega) q3 rfl, q5⟩, q4⟩⟩
      | exit id =>
        obtain ⟨p1, p3⟩ := hp
        obtain ⟨B', q1, rfl, q3, q4, q5⟩ := fin (some (.exit id)) .done B rfl p1
        exact ⟨_, _, q1, .inr ⟨rfl, _, ⟨ownFrom_at (hIx _) p3 (by omega) q3 rfl, q5⟩, q4⟩⟩
      | goto t =>
        obtain ⟨p1, p3⟩ := hp
        obtain ⟨B', q1, rfl, q3, q4, q5⟩ := fin (some (.goto t)) .done B rfl p1
        exact ⟨_, _, q1, .inr ⟨rfl, _, ⟨ownFrom_at (hIx _) p3 (by omega) q3 rfl, q5⟩, q4⟩⟩
      | panic ch => exact hp.elim
      | outgrown => exact hp.elim
    | ret => exact hp.elim
    | exit id => exact hp.elim
    | goto t => exact hp.elim
    | panic ch => exact hp.elim
    | outgrown => exact hp.elim
  · -- behind the iterator
    rintro e A ⟨⟨v, rfl⟩, (⟨xs, hS, ⟨h1, h2⟩, h3⟩ | ⟨pre, hSp, c, ⟨h1, h2⟩, h3⟩)⟩
    · have := run_endLoop (P := P) h3 (by rw [hrd]; simp)
      have e7 : (rc .ready none).pending = none := by rw [hrc]
      rw [e7] at this
      exact ⟨none, _, this, hdone _ xs _ (Nat.le_refl _) hS (ownFrom_at hI h1 (by omega) h3 rfl) ((World.putObj_heap_other (by omega)).trans h2)⟩
    · have hdn : (rc .done (some c)).state ≠ .busy := by rw [hrc]; simp
      have := run_endLoop (P := P) h3 hdn
      have e7 : (rc .done (some c)).pending = some c := by rw [hrc]
      rw [e7] at this
      exact ⟨some c, _, this, Fr.any (ρ := none) (hstop _ c pre _ (Nat.le_refl _) hSp (ownFrom_at (hIx c) h1 (by omega) h3 rfl) ((World.putObj_heap_other (by omega)).trans h2))⟩
theorem c_rangeP {α : Type} {ps : List Tmp} {g : Operand} {assign body : Code} {gf : Nat} {lb : Array Value} {vs : α → List Value} {Kp : World → World → Prop} {T : List α → α → World → Prop} {S Sp : List α → Prop} {B : Nat}
    (hg : ev l g = .func (.func gf) #[] lb) (eg : ∀ args w, (callFunc gf args).run P w = .ok (.enter gf args) w) (hseq : SeqP P gf lb (fun x => (vs x).toArray) Kp T S Sp w)
    (hKt : ∀ {A B C : World}, Kp A B → Kp B C → Kp A C) (hKb : ∀ (A : World) (i : Nat) (o o' : Obj), w.heap.size ≤ i → A.heap[i]? = some o → o.isCells = false → o.isWalk = false → Kp A (A.putObj i o')) (hps : ∀ x, (vs x).length = ps.length)
    (hal : Al B w l.ds) (hB : B ≤ w.heap.size)
    (I : List α → World → Prop) (Ix : Code → List α → World → Prop) (J : List α → α → St → World → Prop) (hI : OwnFrom w.heap.size I) (hIx : ∀ c, OwnFrom w.heap.size (Ix c)) (hJ : ∀ l', OwnFrom w.heap.size fun (p : List α × α) A => J p.1 p.2 l' A) (h0 : I [] w)
    (hassign : ∀ (i : Nat) (pre : List α) (x : α) (A : World), I pre A → T pre x A → C (some i) P assign (Exit.then (fun a' A' => ∃ l', a' = act l' ∧ J pre x l' A' ∧ KeepsOthers A A' ∧ Kp A A') fun _ _ _ => False) (upds (rnd l) ps (vs x)) A)
    (hbody : ∀ (i : Nat) (pre : List α) (x : α) (l' : St) (A : World), J pre x l' A → C (some i) P body (ownPostK Kp I Ix (pre ++ [x]) A) l' A)
    (hdone : ∀ (D : Nat) (xs : List α) (A : World), w.heap.size ≤ D → S xs → I xs A → Al B A (D :: l.ds) → Q .normal (act (mkd D l)) A)
    (hstop : ∀ (D : Nat) (c : Code) (pre : List α) (A : World), w.heap.size ≤ D → Sp pre → Ix c pre A → Al B A (D :: l.ds) → C none P c Q (mkd D l) A) :
    C none P (.rangeFunc g ps.toArray assign body) Q l w := by
  have hal0 : AlH l.ds w := fun D hD => (hal.2 D hD).2
  refine c_rangeBP (encs := fun x => (vs x).toArray) hg eg hseq hKt hKb (fun x => by simpa using hps x) (fun pre A => I pre A ∧ AlH l.ds A) (fun c pre A => Ix c pre A ∧ AlH l.ds A) (fun pre x a A => (∃ l', a = act l' ∧ J pre x l' A) ∧ AlH l.ds A)
    (hI.and hal0.from) (fun c => (hIx c).and hal0.from) ?_ ⟨h0, hal0⟩ ?_ ?_ ?_ ?_
  · rintro a s A B row ⟨⟨l', rfl, h⟩, h2⟩ hg' hr
    exact ⟨⟨l', rfl, hJ l' s A B row h hg' hr⟩, hal0.from s A B row h2 hg' hr⟩
  · intro i pre x A h1 h2
    have := hassign i pre x A h1.1 h2
    unfold C at this
    have e := put_upds ps (vs x) (rnd l)
    have e2 : (({ tmps := (ps.toArray.zip (vs x).toArray).foldl (fun t (p, v) => t.setIfInBounds p v) (act l).tmps, defers := [] }) : Act) = act (upds (rnd l) ps (vs x)) := by
      rw [← e]
      simp [act, rnd]
    rw [e2]
    refine wpIn_mono this ?_
    intro e a w hh
    cases e <;> first | exact hh.elim | skip
    obtain ⟨l', rfl, h3, h4, h5⟩ := hh
    exact ⟨⟨⟨l', rfl, h3⟩, h1.2.keep h4⟩, h4, h5⟩
  · rintro i pre x a A ⟨⟨l', rfl, h⟩, h2⟩
    have := hbody i pre x l' A h
    unfold C at this
    refine wpIn_mono this ?_
    intro e a w hh
    cases e with
    | normal => exact ⟨hh.1, hh.2.1, hh.2.2, h2.keep hh.1⟩
    | ret => exact ⟨hh.1, hh.2, h2.keep hh.1⟩
    | exit id => exact ⟨hh.1, hh.2, h2.keep hh.1⟩
    | goto t => exact ⟨hh.1, hh.2, h2.keep hh.1⟩
    | panic ch => exact hh.elim
    | outgrown => exact hh.elim
  · intro D xs A h1 h2 h3 h4
    exact hdone D xs A h1 h2 h3.1 (hal.cons hB h1 h3.2 h4)
  · intro D c pre A h1 h2 h3 h4
    exact hstop D c pre A h1 h2 h3.1 (hal.cons hB h1 h3.2 h4)
end
theorem Ints.kc {w w' : World} {v : Value} {xs : List Int} (e : KC w w') (h : Ints w v xs) : Ints w' v xs := by
  unfold Ints IntsK Sl at *
  obtain ⟨h0, a, cap, h1, h2, h3, h4⟩ := h
  refine ⟨h0, a, cap, h1, h2, h3, fun i h => ?_⟩
  obtain ⟨p, u, h5, h6, h7⟩ := h4 i h
  exact ⟨p, u, h5, e.cell h6, h7⟩
theorem Ints.store {w w' : World} {b : Nat} {u v : Value} {T : TypeId} {xs : List Int} (h : Ints w v xs) (hb : Bx w b [u] T) (hu : ∀ n, u ≠ .int .i64 n) (hg : w.grownBy w' (some b)) : Ints w' v xs := by
  unfold Ints IntsK Sl at *
  obtain ⟨h0, a, cap, h1, h2, h3, h4⟩ := h
  refine ⟨h0, a, cap, h1, h2, h3, fun i h => ?_⟩
  obtain ⟨p, u2, h5, h6, h7⟩ := h4 i h
  refine ⟨p, u2, h5, ?_, h7⟩
  unfold IntR at h7
  subst h7
  by_cases hbk : (p.add i).block = b
  · exfalso
    unfold World.cell? at h6
    unfold Bx at hb
    rw [hbk, hb] at h6
    simp at h6
    cases ho : (p.add i).off with
    | zero => rw [ho] at h6; simp at h6; exact hu _ h6.2
    | succ n => rw [ho] at h6; simp at h6
  · have e := hg.block (p.add i).block (cell_lt h6) (by simpa using fun h => hbk h)
    unfold World.cell? at h6 ⊢
    rw [e]; exact h6
theorem allP_next {p : Nat → Prop} {j : Nat} (h : ∀ i, i < j → p i) (hj : p j) : ∀ i, i < j + 1 → p i := by
  intro i hi
  rcases Nat.lt_succ_iff_lt_or_eq.1 hi with h1 | rfl
  · exact h i h1
  · exact hj
section
variable {P : Program} {Q : Exit → Act → World → Prop} {l : St} {w : World} {c : Code}
theorem c_rangeAP {α : Type} {ps : List Tmp} {g : Operand} {assign body : Code} {gf : Nat} {lb : Array Value} {vs : α → List Value} {Kp : World → World → Prop} {T : List α → α → World → Prop} {S Sp : List α → Prop} {B : Nat} (a₁ : St → α → St)
    (hg : ev l g = .func (.func gf) #[] lb) (eg : ∀ args w, (callFunc gf args).run P w = .ok (.enter gf args) w) (hseq : SeqP P gf lb (fun x => (vs x).toArray) Kp T S Sp w)
    (hTo : ∀ pre x, OwnFrom w.heap.size fun (_ : Unit) A => T pre x A) (hKr : ∀ A, Kp A A) (hKt : ∀ {A B C : World}, Kp A B → Kp B C → Kp A C) (hKb : ∀ (A : World) (i : Nat) (o o' : Obj), w.heap.size ≤ i → A.heap[i]? = some o → o.isCells = false → o.isWalk = false → Kp A (A.putObj i o')) (hps : ∀ x, (vs x).length = ps.length)
    (hal : Al B w l.ds) (hB : B ≤ w.heap.size)
    (I : List α → World → Prop) (Ix : Code → List α → World → Prop) (hI : OwnFrom w.heap.size I) (hIx : ∀ c, OwnFrom w.heap.size (Ix c)) (h0 : I [] w)
    (hassign : ∀ (i : Nat) (x : α) (A : World) (K : St → World → Prop), K (a₁ (rnd l) x) A → C (some i) P assign (Exit.then (fun a' A' => ∃ l', a' = act l' ∧ K l' A') fun _ _ _ => False) (upds (rnd l) ps (vs x)) A)
    (hbody : ∀ (i : Nat) (pre : List α) (x : α) (A : World), I pre A → T pre x A → C (some i) P body (ownPostK Kp I Ix (pre ++ [x]) A) (a₁ (rnd l) x) A)
    (hdone : ∀ (D : Nat) (xs : List α) (A : World), w.heap.size ≤ D → S xs → I xs A → Al B A (D :: l.ds) → Q .normal (act (mkd D l)) A)
    (hstop : ∀ (D : Nat) (c : Code) (pre : List α) (A : World), w.heap.size ≤ D → Sp pre → Ix c pre A → Al B A (D :: l.ds) → C none P c Q (mkd D l) A) :
    C none P (.rangeFunc g ps.toArray assign body) Q l w := by
  refine c_rangeP hg eg hseq hKt hKb hps hal hB I Ix (fun pre x l' A => (l' = a₁ (rnd l) x ∧ T pre x A) ∧ I pre A) hI hIx (fun l' => ?_) h0 (fun i pre x A h1 h2 => ?_) (fun i pre x l' A h1 => ?_) hdone hstop
  · rintro ⟨pre, x⟩ A A' row hs hg' hr
    exact ⟨⟨hs.1.1, hTo pre x () A A' row hs.1.2 hg' hr⟩, hI pre A A' row hs.2 hg' hr⟩
  · exact hassign i x A (fun l' A' => ((l' = a₁ (rnd l) x ∧ T pre x A') ∧ I pre A') ∧ KeepsOthers A A' ∧ Kp A A') ⟨⟨⟨rfl, h2⟩, h1⟩, KeepsOthers.refl A, hKr A⟩
  · obtain ⟨⟨rfl, h2⟩, h3⟩ := h1
    exact hbody i pre x A h3 h2
/-- The like, where the assignment of the loop's variable allocates a block b. -/
theorem c_rangeAZ {α : Type} {ps : List Tmp} {g : Operand} {assign body : Code} {gf : Nat} {lb : Array Value} {vs : α → List Value} {Kp : World → World → Prop} {T : List α → α → World → Prop} {S Sp : List α → Prop} {B : Nat} (a₁ : St → α → Nat → St) (Z : List α → α → Nat → World → Prop)
    (hg : ev l g = .func (.func gf) #[] lb) (eg : ∀ args w, (callFunc gf args).run P w = .ok (.enter gf args) w) (hseq : SeqP P gf lb (fun x => (vs x).toArray) Kp T S Sp w)
    (hZo : ∀ b, OwnFrom w.heap.size fun (p : List α × α) A => Z p.1 p.2 b A) (hKt : ∀ {A B C : World}, Kp A B → Kp B C → Kp A C) (hKb : ∀ (A : World) (i : Nat) (o o' : Obj), w.heap.size ≤ i → A.heap[i]? = some o → o.isCells = false → o.isWalk = false → Kp A (A.putObj i o')) (hps : ∀ x, (vs x).length = ps.length)
    (hal : Al B w l.ds) (hB : B ≤ w.heap.size)
    (I : List α → World → Prop) (Ix : Code → List α → World → Prop) (hI : OwnFrom w.heap.size I) (hIx : ∀ c, OwnFrom w.heap.size (Ix c)) (h0 : I [] w)
    (hassign : ∀ (i : Nat) (pre : List α) (x : α) (A : World) (K : St → World → Prop), I pre A → T pre x A → (∀ b A', Z pre x b A' → I pre A' → KeepsOthers A A' → Kp A A' → K (a₁ (rnd l) x b) A') → C (some i) P assign (Exit.then (fun a' A' => ∃ l', a' = act l' ∧ K l' A') fun _ _ _ => False) (upds (rnd l) ps (vs x)) A)
    (hbody : ∀ (i : Nat) (pre : List α) (x : α) (b : Nat) (A : World), I pre A → Z pre x b A → C (some i) P body (ownPostK Kp I Ix (pre ++ [x]) A) (a₁ (rnd l) x b) A)
    (hdone : ∀ (D : Nat) (xs : List α) (A : World), w.heap.size ≤ D → S xs → I xs A → Al B A (D :: l.ds) → Q .normal (act (mkd D l)) A)
    (hstop : ∀ (D : Nat) (c : Code) (pre : List α) (A : World), w.heap.size ≤ D → Sp pre → Ix c pre A → Al B A (D :: l.ds) → C none P c Q (mkd D l) A) :
    C none P (.rangeFunc g ps.toArray assign body) Q l w := by
  refine c_rangeP hg eg hseq hKt hKb hps hal hB I Ix (fun pre x l' A => ∃ b, l' = a₁ (rnd l) x b ∧ Z pre x b A ∧ I pre A) hI hIx (fun l' => ?_) h0 (fun i pre x A h1 h2 => ?_) (fun i pre x l' A h1 => ?_) hdone hstop
  · rintro ⟨pre, x⟩ A A' row ⟨b, hl, hz, hi⟩ hg' hr
    exact ⟨b, hl, hZo b (pre, x) A A' row hz hg' hr, hI pre A A' row hi hg' hr⟩
  · exact hassign i pre x A (fun l' A' => (∃ b, l' = a₁ (rnd l) x b ∧ Z pre x b A' ∧ I pre A') ∧ KeepsOthers A A' ∧ Kp A A') h1 h2 (fun b A' hz hi hk hp => ⟨⟨b, rfl, hz, hi⟩, hk, hp⟩)
  · obtain ⟨b, rfl, h2, h3⟩ := h1
    exact hbody i pre x b A h3 h2
theorem m_retcc {B : Nat} {fn : Func} {t1 t2 T1 T2 T1' T2' b1 b2 : Nat} {u1 u2 : Value} {d1 d2 : TypeDesc} {R : Ending → World → Prop} (hal : Al B w l.ds) (hr : fn.results = #[.cell t1 T1, .cell t2 T2]) (h1 : Und P T1 d1) (hd1 : aggD d1 = false) (h2 : Und P T2 d2) (hd2 : aggD d2 = false)
    (ht1 : nth l t1 = .pointer (some ⟨b1, 0, none⟩)) (ht2 : nth l t2 = .pointer (some ⟨b2, 0, none⟩)) (hb1 : Bx w b1 [u1] T1') (hb2 : Bx w b2 [u2] T2') (h : R (.returned (.tuple #[u1, u2])) (shut l.ds w)) :
    BP P fn R .ret (act l) w := by
  refine bp_marks hal ⟨.tuple #[u1, u2], ?_, h⟩
  have h4 : (act l).tmps[t1]?.getD undef = .pointer (some ⟨b1, 0, none⟩) := by rw [← ht1]; exact nth_eq ..
  have h5 : (shut l.ds w).cell? ⟨b1, 0, none⟩ = some u1 := ((hb1.shut hal).cell 0).trans rfl
  have h6 : (act l).tmps[t2]?.getD undef = .pointer (some ⟨b2, 0, none⟩) := by rw [← ht2]; exact nth_eq ..
  have h7 : (shut l.ds w).cell? ⟨b2, 0, none⟩ = some u2 := ((hb2.shut hal).cell 0).trans rfl
  simp [results, hr, h4, h6, asAddr, loadVar, h1.isAgg, h2.isAgg, hd1, hd2, Sem.run_bind, Result.andThen, h5, h7]
end
theorem KC.shut {B : Nat} {w : World} {ds : List Nat} (hal : Al B w ds) : KC w (shut ds w) :=
  shut_fact (F := fun A => KC w A) (fun A D o h1 h2 h3 => h1.trans (KC.put h2 h3)) ds w hal (KC.refl w)
/-! ### A region that draws its order and in which an operation calls yield -/
section mixy
variable {P : Program} {ops : Array Oper}
/-- What is left of a region of which some operation, which waits for all quiet ones, may call yield. -/
def anyY (P : Program) (ops : Array Oper) (qs : List Nat) (Q : Exit → Act → World → Prop) : Nat → Array Bool → Act → World → Prop
  | 0, listed, a, w => Region.ready .any ops listed = [] ∧ Q .normal a w
  | n + 1, listed, a, w => (Region.ready .any ops listed = [] → Q .normal a w) ∧
    ∀ i ∈ Region.ready .any ops listed, wpOp P ops (QT (sinkT ops qs i) w (anyY P ops qs Q n (listed.setIfInBounds i true))) i (QT (sinkT ops qs i) w (anyY P ops qs Q n (listed.setIfInBounds i true)) .normal) a w ∨
      (sinkT ops qs i = true ∧ wpOpIn Fence.wide 2 P ops Q i (anyY P ops qs Q n (listed.setIfInBounds i true)) a w)
theorem any_of_Y {qs : List Nat} {Q : Exit → Act → World → Prop} (hnd : ∀ (j : Nat) (o : Oper), ops[j]? = some o → ∀ c, o.op ≠ .defer c) : ∀ (n : Nat) (listed : Array Bool) (a : Act) (w : World), anyY P ops qs Q n listed a w → wpAnyIn Fence.wide 2 P .any ops Q n listed a w
  | 0, _, _, _, h => h
  | n + 1, listed, a, w, h => by
    refine ⟨h.1, fun i hi => ?_⟩
    rcases h.2 i hi with h2 | ⟨_, h2⟩
    · have h3 : wpOp P ops (fun _ _ _ => False) i (wpAnyIn Fence.wide 2 P .any ops Q n (listed.setIfInBounds i true)) a w := wpOp_to (fun a' w' hk => any_of_Y hnd n _ a' w' hk.out) (fun e a w he hq => absurd hq (QT_no e a w he)) h2
      unfold wpOp at h3
      unfold wpOpIn
      split
      · rename_i ho; simp only [ho] at h3; exact h3
      · rename_i o ho
        simp only [ho] at h3
        by_cases hw : Region.wanted o (yielded ops a.tmps) = true
        · rw [if_pos hw] at h3 ⊢
          rcases h3 with h3 | ⟨_, a', w', h3⟩
          · exact op_in (ρ := none) (hnd i o ho) (fun a w hk => hk) (fun e a w hq => hq.elim) (fun a w hq => hq) h3
          · exact h3.elim
        · rw [if_neg hw] at h3 ⊢
          exact ⟨fun f _ => Fr.fn none f, h3⟩
    · exact wpOpIn_mono (fun a w hk => any_of_Y hnd n _ a w hk) h2
/-- A quiet operation that may come up now may be taken first. -/
theorem Y_first {qs : List Nat} {Q : Exit → Act → World → Prop} {i : Nat} {oi : Oper} {v : Value} {w0 : World} (hi : ops[i]? = some oi) (hq : i ∈ qs) (hsel : ∀ (j : Nat) (o : Oper) cs b, ops[j]? = some o → o.op ≠ .select cs b) :
    ∀ (n : Nat) (listed : Array Bool) (a : Act) (w : World), Clo ops listed →
      (∀ j oj, ops[j]? = some oj → j ≠ i → listed.getD j true = false → (∀ e ∈ oj.after, Region.binds .any e = true → e.on ≠ i) → oi.apart ops oj = true) →
      i ∈ Region.ready .any ops listed → YE P ops w0 oi v a → Ex w0 w →
      (∀ w', Ex w w' → anyY P ops qs Q n (listed.setIfInBounds i true) (a.put oi.dst v) w') → anyY P ops qs Q (n + 1) listed a w := by
  intro n
  induction n with
  | zero =>
    intro listed a w hcl _ hr hy hw H
    refine ⟨fun h => (by rw [h] at hr; cases hr), fun j hj => ?_⟩
    by_cases hji : j = i
    · subst hji; exact .inl (hy.step hi hw H)
    · have := ready_mono hj hji
      rw [(H w (Ex.refl w)).1] at this
      cases this
  | succ n ih =>
    intro listed a w hcl hfree hr hy hw H
    refine ⟨fun h => (by rw [h] at hr; cases hr), fun j hj => ?_⟩
    by_cases hji : j = i
    · subst hji; exact .inl (hy.step hi hw H)
    · obtain ⟨hjun, oj, hoj, hall⟩ := mem_ready.1 hj
      have hun : listed.getD i false = false := getD_in' (mem_ready.1 hr).1
      have hsink : sinkT ops qs j = false := by
        cases e : sinkT ops qs j
        · rfl
        · unfold sinkT at e
          rw [List.all_eq_true] at e
          have h5 := e i hq
          rw [List.contains_iff_mem] at h5
          have := anc_listed hcl _ j oj hoj hall i h5
          rw [hun] at this; cases this
      have h1 := ((H w (Ex.refl w)).2 j (ready_mono hj hji)).resolve_right (fun h => by rw [hsink] at h; cases h.1)
      have hnot : ∀ e ∈ oj.after, Region.binds .any e = true → e.on ≠ i := fun e he hb heq => by
        have h1 := hall e he hb
        rw [heq, hun] at h1; cases h1
      have h2 := wpOpE_put hoj (hfree j oj hoj hji hjun hnot) (fun cs b => hsel i oi cs b hi) (fun cs b => hsel j oj cs b hoj) QT_no hy h1
      have hfree' : ∀ k ok, ops[k]? = some ok → k ≠ i → (listed.setIfInBounds j true).getD k true = false →
          (∀ e ∈ ok.after, Region.binds .any e = true → e.on ≠ i) → oi.apart ops ok = true := fun k ok hk hki hun hno => by
        refine hfree k ok hk hki ?_ hno
        by_cases hjk : j = k
        · subst hjk; exact hjun
        · rw [getD_set_ne true hjk] at hun; exact hun
      refine .inl (wpOp_to (fun a' w' h3 => ?_) (fun e a w he hq => absurd hq (QT_no e a w he)) h2)
      obtain ⟨hy', h4⟩ := h3
      rw [hsink] at h4 ⊢
      have h4' : Ex w w' ∧ ∀ w'', Ex w' w'' → anyY P ops qs Q n ((listed.setIfInBounds i true).setIfInBounds j true) (a'.put oi.dst v) w'' := h4
      refine ⟨h4'.1, fun w'' hw'' => ih (listed.setIfInBounds j true) a' w'' (hcl.set hj) hfree' (ready_mono hr (Ne.symm hji)) hy' ((hw.trans h4'.1).trans hw'') fun w3 h3 => ?_⟩
      rw [Array.setIfInBounds_comm _ _ hji]
      exact h4'.2 w3 (hw''.trans h3)
theorem Y_lex {qs0 : List Nat} {Q : Exit → Act → World → Prop} {w0 : World} (hsel : Region.noSelect ops = true) (n : Nat) :
    ∀ (qs : List Nat) (ql : List Oper) (listed listed' : Array Bool) (a : Act) (w : World), (∀ i ∈ qs, i ∈ qs0) → ql = qs.filterMap (ops[·]?) → Clo ops listed → lexQ ops qs listed = some listed' → Ex w0 w →
      wpM P ops w0 (fun a' => ∀ w', Ex w0 w' → anyY P ops qs0 Q n listed' a' w') ql a → anyY P ops qs0 Q (qs.length + n) listed a w
  | [], ql, listed, listed', a, w, _, hq, hcl, hx, hw, h => by
    subst hq
    simp only [lexQ, Option.some.injEq] at hx
    subst hx
    simp only [List.length_nil, Nat.zero_add]
    exact h w hw
  | i :: qs, ql, listed, listed', a, w, hin, hq, hcl, hx, hw, h => by
    simp only [lexQ] at hx
    split at hx
    case isFalse => cases hx
    rename_i hb
    simp only [Bool.and_eq_true, List.contains_iff_mem] at hb
    obtain ⟨_, o, ho, _⟩ := mem_ready.1 hb.1
    simp only [List.filterMap_cons, ho] at hq
    subst hq
    have : ∃ v, YE P ops w0 o v a ∧ wpM P ops w0 (fun a' => ∀ w', Ex w0 w' → anyY P ops qs0 Q n listed' a' w') (qs.filterMap (ops[·]?)) (a.put o.dst v) := by
      unfold wpM at h
      split at h
      · rename_i hwd; obtain ⟨v, h3, h4⟩ := h; exact ⟨v, .inl ⟨hwd, h3⟩, h4⟩
      · rename_i hwd; exact ⟨undef, .inr ⟨by simpa using hwd, rfl⟩, h⟩
    obtain ⟨v, hy, h'⟩ := this
    have e : (i :: qs).length + n = (qs.length + n) + 1 := by simp; omega
    rw [e]
    exact Y_first ho (hin i (by simp)) (Region.noSelect_spec hsel) _ listed a w hcl (Region.free_spec ho hb.2) hb.1 hy hw fun w' hw' =>
      Y_lex hsel n qs _ _ listed' _ w' (fun k hk => hin k (by simp [hk])) rfl (hcl.set hb.1) hx (hw.trans hw') h'
theorem wp_mixY {id : Nat} {Q : Exit → Act → World → Prop} {a : Act} {w : World} (qs : List Nat) (n : Nat) (l2 : Array Bool) (ql : List Oper) (hm : P.follows .mixedOrders = true) (hB : mixX ops [] qs n l2 = true)
    (hq : ql = qs.filterMap (ops[·]?)) (h : wpM P ops w (fun a' => ∀ w', Ex w w' → anyY P ops qs Q n l2 a' w') ql a) : (Code.region id ops true).wpIn (Fr none) 1 P Q a w := by
  simp only [mixX, Bool.and_eq_true, decide_eq_true_eq, lexQ] at hB
  obtain ⟨⟨⟨hsel, hnd⟩, hsz⟩, hB⟩ := hB
  split at hB
  case h_2 => cases hB
  rename_i l hx2
  have hl : l = l2 := by simpa using hB
  subst hl
  have hcl : Clo ops (Array.replicate ops.size false) := fun j oj _ hl => by
    rw [Array.getD_eq_getD_getElem?] at hl
    by_cases hj : j < ops.size
    · simp [hj] at hl
    · simp [hj] at hl
  have hx := Y_lex (P := P) (Q := Q) (w0 := w) hsel n qs ql _ l a { w with drawn := w.drawn + 1 } (fun _ h => h) hq hcl hx2 (Ex.refl w).drew h
  have hsz' : qs.length + n = ops.size := by simpa using hsz
  rw [hsz'] at hx
  exact Fr.any (ρ := none) (n := 2) (wpIn_region_any hm (any_of_Y (nodef_get hnd) _ _ _ _ hx))
end mixy
section
variable {P : Program} {w : World} {ol : List Oper} {l : St}
def YT (P : Program) (ol : List Oper) (qs : List Nat) (Q : Exit → Act → World → Prop) (n : Nat) (listed : Array Bool) (l : St) (w : World) : Prop := anyY P ol.toArray qs Q n listed (act l) w
theorem c_mixY {id : Nat} {Q : Exit → Act → World → Prop} (qs : List Nat) (n : Nat) (l2 : Array Bool) (m : List Bool) {ql : List Oper} [hm : Mixed P]
    (hB : mixX ol.toArray [] qs n l2 = true) (k1 : sel m ol = qs.filterMap (ol[·]?)) (e1 : sel m ol = ql)
    (h : WM P w ol (fun a' => ∀ w', Ex w w' → anyY P ol.toArray qs Q n l2 a' w') ql l) : C none P (.region id ol.toArray true) Q l w := by
  subst e1
  unfold C
  unfold WM at h
  exact wp_mixY qs n l2 (sel m ol) hm.out hB (by simpa using k1) h
theorem YM_nil {qs : List Nat} {n : Nat} {l2 : Array Bool} {Q : Exit → Act → World → Prop} (h : ∀ w', Ex w w' → YT P ol qs Q n l2 l w') : WM P w ol (fun a' => ∀ w', Ex w w' → anyY P ol.toArray qs Q n l2 a' w') [] l := by
  unfold WM; exact h
theorem YT_nil {qs : List Nat} {Q : Exit → Act → World → Prop} {listed : Array Bool} (hr : Region.ready .any ol.toArray listed = []) (h : Q .normal (act l) w) : YT P ol qs Q 0 listed l w := ⟨hr, h⟩
theorem YT_one {qs : List Nat} {Q : Exit → Act → World → Prop} {n t : Nat} {s : Bool} {o : Oper} {listed listed' : Array Bool} (hr : Region.ready .any ol.toArray listed = [t]) (ho : ol[t]? = some o) (hs : sinkT ol.toArray qs t = s) (hl : listed.setIfInBounds t true = listed')
    (h : W P ol (QT s w (anyY P ol.toArray qs Q n listed')) [o] l w) : YT P ol qs Q (n + 1) listed l w := by
  subst hs; subst hl
  unfold W at h
  refine ⟨fun h0 => (by rw [hr] at h0; cases h0), fun i hi => ?_⟩
  rw [hr] at hi
  have : i = t := by simpa using hi
  subst this
  left
  unfold wpOp
  simp only [List.getElem?_toArray, ho]
  exact h
theorem YT_yield {qs : List Nat} {Q : Exit → Act → World → Prop} {n t d i : Nat} {g : Operand} {xs : List Operand} {vs : List Value} {tys : Array TypeId} {T : TypeId} {pos : String} {af : Array Edge} {R : Ending → World → Prop} {listed listed' : Array Bool}
    (hr : Region.ready .any ol.toArray listed = [t]) (ho : ol[t]? = some ⟨some d, .call { callee := .value g, args := xs.toArray, argTypes := tys }, T, pos, af, none⟩) (hs : sinkT ol.toArray qs t = true) (hl : listed.setIfInBounds t true = listed')
    (hg : ev l g = .func (.yield i) #[] #[]) (hx : evs l xs = vs) (hy : YieldAt Fence.wide 1 P i vs.toArray w R)
    (hR : ∀ e w', R e w' → ∃ b, e = .returned (.bool b))
    (k : ∀ b w', R (.returned (.bool b)) w' → YT P ol qs Q n listed' (upd l d (.bool b)) w') : YT P ol qs Q (n + 1) listed l w := by
  subst hl
  refine ⟨fun h0 => (by rw [hr] at h0; cases h0), fun j hj => ?_⟩
  rw [hr] at hj
  have : j = t := by simpa using hj
  subst this
  refine .inr ⟨hs, ?_⟩
  unfold wpOpIn
  simp only [List.getElem?_toArray, ho, Region.wanted, if_true]
  obtain ⟨fn, tmps, assign, body, h1, h2⟩ := hy
  have hrun : (execOp (ev l) ⟨some d, .call { callee := .value g, args := xs.toArray, argTypes := tys }, T, pos, af, none⟩).run P w = .ok (.round i fn tmps assign body) w := by
    simp only [execOp, resolve, hg, List.map_toArray, map_evs, hx]
    simp [Deferred.ofValue, invoke, Sem.run_bind, Result.andThen, h1]
  refine ⟨fun _ _ => trivial, ?_⟩
  have e : Oper.semAt Fence.wide.round (act l).eval ⟨some d, .call { callee := .value g, args := xs.toArray, argTypes := tys }, T, pos, af, none⟩ = execOp (act l).eval ⟨some d, .call { callee := .value g, args := xs.toArray, argTypes := tys }, T, pos, af, none⟩ := rfl
  rw [e]
  simp only [eval_act, hrun, Oper.uponIn_round]
  refine ⟨(fun h => by cases h), h2.mono ?_⟩
  intro e w' he
  obtain ⟨b, rfl⟩ := hR _ _ he
  have := k b w' he
  unfold YT at this
  show anyY P ol.toArray qs Q n _ ((act l).put (some d) (.bool b)) w'
  rw [put_act]
  exact this
theorem y_sink {qs : List Nat} {Q : Exit → Act → World → Prop} {n : Nat} {listed : Array Bool} {w0 : World} (h : YT P ol qs Q n listed l w) : QT true w0 (anyY P ol.toArray qs Q n listed) .normal (act l) w := h
theorem y_keep {qs : List Nat} {Q : Exit → Act → World → Prop} {n : Nat} {listed : Array Bool} {w0 : World} (hx : Ex w0 w) (h : ∀ w'', Ex w w'' → YT P ol qs Q n listed l w'') : QT false w0 (anyY P ol.toArray qs Q n listed) .normal (act l) w := ⟨hx, h⟩
end
attribute [irreducible] YT
end Go.Pv
