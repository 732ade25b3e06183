/-
  What this text proves: a range over a function whose variables lie in boxes of their own or are several; and a region in an iterator in which its call of yield stands behind other operations. Over any program.
-/
import Derived.Test.YtbmjigneekodnaaR
import Derived.Test.YtbmjigneekodnaaVg
set_option linter.unusedVariables false
set_option linter.unusedSimpArgs false
namespace Go.Pv
open Go.RowKit
section
variable {P : Program} {Q : Exit → Act → World → Prop} {l : St} {w : World} {c : Code}
theorem ownFrom_at {β : Type} {B : Nat} {I : β → World → Prop} (h : OwnFrom B I) {s : β} {A : World} {i : Nat} {o o' : Obj} (hs : I s A) (hB : B ≤ i) (hi : A.heap[i]? = some o) (ho : o.isCells = false) : I s (A.putObj i o') :=
  h s A _ (some i) hs (grownBy_putObj' A i o') fun r e => by cases e; exact ⟨hB, o, hi, ho⟩
/-- **A range over a function: what the assignments to its variables make is said by J.** -/
theorem c_rangeB {α : Type} {ps : Array Tmp} {g : Operand} {assign body : Code} {gf : Nat} {lb : Array Value} {encs : α → Array Value} {Kp : World → World → Prop} {S Sp : List α → Prop} {N : Nat}
    (hg : ev l g = .func (.func gf) #[] lb) (eg : ∀ args w, (callFunc gf args).run P w = .ok (.enter gf args) w) (hseq : SeqStopsK Fence.wide 2 P gf lb encs Kp S Sp N w)
    (hKt : ∀ {A B C : World}, Kp A B → Kp B C → Kp A C) (hKb : ∀ (A : World) (i : Nat) (o o' : Obj), w.heap.size ≤ i → A.heap[i]? = some o → o.isCells = false → o.isWalk = false → Kp A (A.putObj i o')) (hps : ∀ x, (encs x).size = ps.size)
    (I : List α → World → Prop) (Ix : Code → List α → World → Prop) (J : List α → α → Act → World → Prop) (hI : OwnFrom w.heap.size I) (hIx : ∀ c, OwnFrom w.heap.size (Ix c)) (hJ : ∀ a, OwnFrom w.heap.size fun (p : List α × α) A => J p.1 p.2 a A) (h0 : I [] w)
    (hassign : ∀ (i : Nat) (pre : List α) (x : α) (A : World), I pre A → pre.length < N → assign.wpIn (Fence.wide.inRound i) 1 P (Exit.then (fun a' A' => J pre x a' A' ∧ KeepsOthers A A' ∧ Kp A A') fun _ _ _ => False)
      { tmps := (ps.zip (encs x)).foldl (fun t (p, v) => t.setIfInBounds p v) (act l).tmps, defers := [] } A)
    (hbody : ∀ (i : Nat) (pre : List α) (x : α) (a' : Act) (A : World), J pre x a' A → body.wpIn (Fence.wide.inRound i) 1 P (ownPostK Kp I Ix (pre ++ [x]) A) a' A)
    (hdone : ∀ (D : Nat) (xs : List α) (A : World), w.heap.size ≤ D → S xs → I xs A → A.heap[D]? = some (.deferred (some [])) → Q .normal (mk D (act l)) A)
    (hstop : ∀ (D : Nat) (c : Code) (pre : List α) (A : World), w.heap.size ≤ D → Sp pre → Ix c pre A → A.heap[D]? = some (.deferred (some [])) → c.wp P Q (mk D (act l)) A) :
    C P (.rangeFunc g ps assign body) Q l w := by
  unfold C
  refine (wpIn_wide (n := 3)).1 (wpIn_rangeFunc fun fn hfn => ?_)
  -- the record of this loop, by its state
  obtain ⟨rc, hrc⟩ : ∃ rc : LoopState → Option Code → Loop, rc = fun st pe => { state := st, pending := pe, fn, tmps := (act l).tmps, params := ps, assign, body, defers := w.heap.size } := ⟨_, rfl⟩
  have hrd : (rc .ready none).state = .ready := by rw [hrc]
  obtain ⟨V, hV⟩ : ∃ V, V = (w.alloc (.deferred (some []))).alloc (.loop (rc .ready none)) := ⟨_, rfl⟩
  have b1 : Below w.heap.size w V := by
    rw [hV]; exact ((Below.refl _ w).alloc (Nat.le_refl _) _).alloc (by simp) _
  have b2 : V.heap[w.heap.size + 1]? = some (.loop (rc .ready none)) := by
    have := World.alloc_heap_new (w.alloc (.deferred (some []))) (.loop (rc .ready none))
    rw [World.size_alloc] at this
    rw [hV]; exact this
  have b3 : V.heap[w.heap.size]? = some (.deferred (some [])) := by
    rw [hV]; exact (Below.heap_alloc _ _ _ (by simp)).trans (World.alloc_heap_new w _)
  have b4 : I [] V := by
    rw [hV]; exact hI _ _ _ none (hI _ _ _ none h0 (World.grownBy_alloc _ _ none) (by intro r e; cases e)) (World.grownBy_alloc _ _ none) (by intro r e; cases e)
  have b5 : V.heap.size = w.heap.size + 2 := by rw [hV]; simp
  refine ⟨w.heap.size + 1, [{ target := .collected w.heap.size, args := #[] }], V, { target := .fn (.func gf) lb, args := #[.func (.yield (w.heap.size + 1)) #[] #[]] }, V, gf,
    #[.func (.yield (w.heap.size + 1)) #[] #[]] ++ lb, V, ?_, ?_, ?_, ?_, (fun h => by cases h), ?_⟩
  · have := run_enterLoop_outer (P := P) (w := w) fn (act l).tmps ps assign body
    rw [hV, hrc]
    exact this
  · have hg' : (act l).eval g = .func (.func gf) #[] lb := by rw [eval_act]; exact hg
    simp only [resolve, hg']
    simp [go_sem]
  · intro f' hf'
    exact trivial
  · simp [invoke, go_sem, eg]
  -- what the iterator is told: the caller's word, the record, the block of the rounds' deferred calls
  refine (hseq (w.heap.size + 1)
    (fun pre A => (I pre A ∧ A.heap[w.heap.size]? = some (.deferred (some []))) ∧ A.heap[w.heap.size + 1]? = some (.loop (rc .ready none)))
    (fun pre A => ∃ c, (Ix c pre A ∧ A.heap[w.heap.size]? = some (.deferred (some []))) ∧ A.heap[w.heap.size + 1]? = some (.loop (rc .done (some c)))) V b1 ?_ ?_ ?_ ⟨⟨b4, b3⟩, b2⟩).mono ?_
  · rintro s A B row ⟨⟨h1, h2⟩, h3⟩ hgr hr
    have hr' : ∀ r, row = some r → w.heap.size ≤ r ∧ ∃ o : Obj, A.heap[r]? = some o ∧ o.isCells = false := fun r e => by
      obtain ⟨q1, o, q2, q3⟩ := hr r e
      exact ⟨by omega, o, q2, Obj.not_cells_of_walk q3⟩
    exact ⟨⟨hI s A B row h1 hgr hr', (grownBy_keeps hgr (fun r e => (hr r e).2) h2 rfl).trans h2⟩, (grownBy_keeps hgr (fun r e => (hr r e).2) h3 rfl).trans h3⟩
  · rintro s A B row ⟨c, ⟨h1, h2⟩, h3⟩ hgr hr
    have hr' : ∀ r, row = some r → w.heap.size ≤ r ∧ ∃ o : Obj, A.heap[r]? = some o ∧ o.isCells = false := fun r e => by
      obtain ⟨q1, o, q2, q3⟩ := hr r e
      exact ⟨by omega, o, q2, Obj.not_cells_of_walk q3⟩
    exact ⟨c, ⟨hIx c s A B row h1 hgr hr', (grownBy_keeps hgr (fun r e => (hr r e).2) h2 rfl).trans h2⟩, (grownBy_keeps hgr (fun r e => (hr r e).2) h3 rfl).trans h3⟩
  · -- a round
    rintro pre x A ⟨⟨h1, h2⟩, h3⟩ hlen
    have hy := run_yield (P := P) (args := encs x) h3 (by rw [hrc]; exact hps x)
    have e1 : (rc .ready none).fn = fn := by rw [hrc]
    have e2 : (rc .ready none).params = ps := by rw [hrc]
    have e3 : (rc .ready none).tmps = (act l).tmps := by rw [hrc]
    have e4 : (rc .ready none).assign = assign := by rw [hrc]
    have e5 : (rc .ready none).body = body := by rw [hrc]
    rw [e1, e2, e3, e4, e5] at hy
    refine ⟨fn, _, assign, body, hy, roundIn_of_wpIn hfn (wpIn_mono (hassign (w.heap.size + 1) pre x A h1 hlen) ?_)⟩
    intro e a1 A1 hp
    cases e with
    | normal =>
      obtain ⟨j1, j2, j3⟩ := hp
      have g3 := j2.same _ _ h3 rfl
      have g2 := j2.same _ _ h2 rfl
      refine ⟨_, run_beginRound g3 hrd, wpIn_mono (hbody (w.heap.size + 1) pre x a1 _ (ownFrom_at (hJ a1) (s := (pre, x)) j1 (by omega) g3 rfl)) ?_⟩
      have lt1 : w.heap.size + 1 < A1.heap.size := (Array.getElem?_eq_some_iff.1 g3).1
      have k3 := World.putObj_heap_same (w := A1) (o := .loop { rc .ready none with state := .busy }) lt1
      have k2 : (A1.putObj (w.heap.size + 1) (.loop { rc .ready none with state := .busy })).heap[w.heap.size]? = some (.deferred (some [])) := (World.putObj_heap_other (by omega)).trans g2
      have kb := hKb A1 (w.heap.size + 1) _ (.loop { rc .ready none with state := .busy }) (by omega) g3 rfl rfl
      -- the round's end, however it is left
      have fin : ∀ (jump : Option Code) (st : LoopState) (B : World), (if jump.isNone then LoopState.ready else .done) = st → KeepsOthers (A1.putObj (w.heap.size + 1) (.loop { rc .ready none with state := .busy })) B →
          ∃ B', (Instr.endRound (w.heap.size + 1) jump).run P B = .ok (.bool jump.isNone) B' ∧ B' = B.putObj (w.heap.size + 1) (.loop (rc st jump)) ∧ B.heap[w.heap.size + 1]? = some (.loop { rc .ready none with state := .busy }) ∧
            B'.heap[w.heap.size + 1]? = some (.loop (rc st jump)) ∧ B'.heap[w.heap.size]? = some (.deferred (some [])) := by
        intro jump st B hst hk
        have m3 := hk.same _ _ k3 rfl
        have := run_endRound (P := P) jump m3
        rw [hst] at this
        have e6 : ({ ({ rc .ready none with state := .busy } : Loop) with state := st, pending := jump } : Loop) = rc st jump := by rw [hrc]
        rw [e6] at this
        exact ⟨_, this, rfl, m3, World.putObj_heap_same (Array.getElem?_eq_some_iff.1 m3).1, (World.putObj_heap_other (by omega)).trans (hk.same _ _ k2 rfl)⟩
      intro e' a2 B hp
      cases e' with
      | normal =>
        obtain ⟨p1, p2, p3⟩ := hp
        obtain ⟨B', q1, rfl, q3, q4, q5⟩ := fin none .ready B rfl p1
        exact ⟨_, _, q1, .inl ⟨rfl, ⟨⟨ownFrom_at hI p3 (by omega) q3 rfl, q5⟩, q4⟩, hKt j3 (hKt kb (hKt p2 (hKb _ _ _ _ (by omega) q3 rfl rfl)))⟩⟩
      | ret =>
        obtain ⟨p1, p3⟩ := hp
        obtain ⟨B', q1, rfl, q3, q4, q5⟩ := fin (some .ret) .done B rfl p1
        exact ⟨_, _, q1, .inr ⟨rfl, _, ⟨ownFrom_at (hIx _) p3 (by omega) q3 rfl, q5⟩, q4⟩⟩
      | exit id =>
        obtain ⟨p1, p3⟩ := hp
        obtain ⟨B', q1, rfl, q3, q4, q5⟩ := fin (some (.exit id)) .done B rfl p1
        exact ⟨_, _, q1, .inr ⟨rfl, _, ⟨ownFrom_at (hIx _) p3 (by omega) q3 rfl, q5⟩, q4⟩⟩
      | goto t =>
        obtain ⟨p1, p3⟩ := hp
        obtain ⟨B', q1, rfl, q3, q4, q5⟩ := fin (some (.goto t)) .done B rfl p1
        exact ⟨_, _, q1, .inr ⟨rfl, _, ⟨ownFrom_at (hIx _) p3 (by omega) q3 rfl, q5⟩, q4⟩⟩
      | panic ch => exact hp.elim
      | outgrown => exact hp.elim
    | ret => exact hp.elim
    | exit id => exact hp.elim
    | goto t => exact hp.elim
    | panic ch => exact hp.elim
    | outgrown => exact hp.elim
  · -- behind the iterator
    rintro e A ⟨⟨v, rfl⟩, (⟨xs, hS, ⟨h1, h2⟩, h3⟩ | ⟨pre, hSp, c, ⟨h1, h2⟩, h3⟩)⟩
    · have := run_endLoop (P := P) h3 (by rw [hrd]; simp)
      have e7 : (rc .ready none).pending = none := by rw [hrc]
      rw [e7] at this
      exact ⟨none, _, this, hdone _ xs _ (Nat.le_refl _) hS (ownFrom_at hI h1 (by omega) h3 rfl) ((World.putObj_heap_other (by omega)).trans h2)⟩
    · have hdn : (rc .done (some c)).state ≠ .busy := by rw [hrc]; simp
      have := run_endLoop (P := P) h3 hdn
      have e7 : (rc .done (some c)).pending = some c := by rw [hrc]
      rw [e7] at this
      exact ⟨some c, _, this, wpIn_wide.2 (hstop _ c pre _ (Nat.le_refl _) hSp (ownFrom_at (hIx c) h1 (by omega) h3 rfl) ((World.putObj_heap_other (by omega)).trans h2))⟩
/-- Operations that stand ahead of others in a region under the wide fence. -/
theorem list_pre {ops : Array Oper} {rest : List Oper} : ∀ (pre : List Oper) (a : Act) (w : World), (∀ o ∈ pre, ∀ c, o.op ≠ .defer c) →
    wpList P ops (fun e a w => e = .normal ∧ wpListIn Fence.wide 2 P ops Q rest a w) pre a w → wpListIn Fence.wide 2 P ops Q (pre ++ rest) a w
  | [], a, w, _, h => by
    simp only [wpList] at h
    exact h.2
  | o :: pre, a, w, hnd, h => by
    have ih := fun a w => list_pre (ops := ops) (rest := rest) pre a w (fun o ho => hnd o (List.mem_cons_of_mem _ ho))
    have hsem : ∀ ρ, o.semAt Fence.wide.round ρ = execOp ρ o := fun ρ => Oper.semAt_eq _ _ _ (hnd o (List.mem_cons_self ..))
    simp only [wpList] at h
    simp only [List.cons_append, wpListIn]
    by_cases hw : Region.wanted o (yielded ops a.tmps) = true
    · rw [if_pos hw] at h
      rw [if_pos hw]
      rcases h with h | ⟨_, a', w', h⟩
      · refine ⟨fun f _ => trivial, ?_⟩
        rw [hsem a.eval]
        unfold Oper.wp at h
        unfold Oper.upon at h
        unfold Oper.uponIn
        split at h
        · next v w' hr => simp only [hr]; exact ih _ _ h
        · next w' hr => simp only [hr]; exact ih _ _ h
        · next d w' hr => simp only [hr]; exact ih _ _ h
        · next f args w' hr =>
          simp only [hr]
          refine ⟨(fun h => by cases h), callsIn_wide.2 (Calls.mono h ?_)⟩
          rintro e w'' he
          cases e with
          | returned v => exact ih _ _ he
          | panicked ch => exact absurd he.1 (by simp)
          | outgrown => obtain ⟨a1, w1, h1⟩ := he; exact absurd h1.1 (by simp)
        · next row args w' hr =>
          simp only [hr]
          refine ⟨(fun h => by cases h), fun c cs _ => ?_⟩
          obtain ⟨v, w2, h1, h2⟩ := (Rows.mono h (fun v w'' he => ih _ _ he)) c cs
          exact ⟨v, w2, h1, stepsIn_wide.2 h2⟩
        · next v w' hr => exact absurd h.1 (by simp)
        · exact h.elim
      · exact absurd h.1 (by simp)
    · rw [if_neg hw] at h
      rw [if_neg hw]
      exact ⟨fun f _ => trivial, ih _ _ h⟩
theorem c_regionP {id : Nat} {ol pre rest : List Oper} (mp mr : List Bool) (hp : sel mp ol = pre) (hr : sel mr ol = rest) (ha : pre ++ rest = ol) (hnd : nodef pre = true)
    (h : W P ol (fun e a w => e = .normal ∧ wpListIn Fence.wide 2 P ol.toArray Q rest a w) pre l w) : C P (.region id ol.toArray false) Q l w := by
  refine c_regionI ?_
  unfold WI
  unfold W at h
  have := list_pre pre _ w (nodef_ok hnd) h
  rw [ha] at this
  exact this
theorem WP_nil {ol rest : List Oper} (h : WI P ol Q rest l w) : (fun (e : Exit) (a : Act) (w : World) => e = Exit.normal ∧ wpListIn Fence.wide 2 P ol.toArray Q rest a w) .normal (act l) w := ⟨rfl, h⟩
/-- The other operations of the region behind its call of yield. -/
theorem WI_rest {ol rest : List Oper} (hnd : nodef rest = true) (h : W P ol (fun e a w => e = .normal ∧ Q .normal a w) rest l w) : WI P ol Q rest l w := by
  unfold W at h
  unfold WI
  have := list_in (Q' := Q) (.inl rfl) (n := 2) [] (fun e a w ⟨he, hk⟩ => by subst he; simpa using hk) (fun a w h => by cases h.1) rest _ w (nodef_ok hnd) h
  simpa using this
end
end Go.Pv
namespace Go.Pv
open Go.RowKit
section
variable {P : Program} {Q : Exit → Act → World → Prop} {l : St} {w : World}
/-- A call of yield with any arguments. -/
theorem WI_yieldN {ol rest : List Oper} {d i : Nat} {g : Operand} {xs : List Operand} {vs : List Value} {tys : Array TypeId} {T : TypeId} {pos : String} {af : Array Edge} {R : Ending → World → Prop}
    (hg : ev l g = .func (.yield i) #[] #[]) (hx : evs l xs = vs) (hy : YieldAt Fence.wide 1 P i vs.toArray w R)
    (hR : ∀ e w', R e w' → ∃ b, e = .returned (.bool b))
    (k : ∀ b w', R (.returned (.bool b)) w' → WI P ol Q rest (upd l d (.bool b)) w') :
    WI P ol Q (⟨some d, .call { callee := .value g, args := xs.toArray, argTypes := tys }, T, pos, af, none⟩ :: rest) l w := by
  refine wpListIn_plain rfl fun K hK => ⟨fun _ _ => trivial, ?_⟩
  obtain ⟨fn, tmps, assign, body, h1, h2⟩ := hy
  have hrun : (execOp (ev l) ⟨some d, .call { callee := .value g, args := xs.toArray, argTypes := tys }, T, pos, af, none⟩).run P w = .ok (.round i fn tmps assign body) w := by
    simp only [execOp, resolve, hg, List.map_toArray, map_evs, hx]
    simp [Deferred.ofValue, invoke, Sem.run_bind, Result.andThen, h1]
  have e : Oper.semAt Fence.wide.round (act l).eval ⟨some d, .call { callee := .value g, args := xs.toArray, argTypes := tys }, T, pos, af, none⟩ = execOp (act l).eval ⟨some d, .call { callee := .value g, args := xs.toArray, argTypes := tys }, T, pos, af, none⟩ := rfl
  rw [e]
  simp only [eval_act, hrun, Oper.uponIn_round]
  refine ⟨(fun h => by cases h), h2.mono ?_⟩
  intro e w' he
  obtain ⟨b, rfl⟩ := hR _ _ he
  show K ((act l).put (some d) (.bool b)) w'
  rw [put_act]
  exact hK _ _ (k b w' he)
end
end Go.Pv
