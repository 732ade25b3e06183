/-
  What this text proves: laws by which a range over a function is walked: its iterator's call of yield, the loop itself, its rounds and its end. Over any program.
-/
import Derived.Test.YtlphfobpheefkaaPv
namespace Go.Pv
open Go.RowKit
set_option linter.unusedVariables false
set_option linter.unusedSimpArgs false
section
variable {P : Program} {Q : Exit → Act → World → Prop} {l : St} {w : World} {c : Code}
/-- The operations of a region under the wide fence, one by one. -/
def WI (P : Program) (ol : List Oper) (Q : Exit → Act → World → Prop) (rest : List Oper) (l : St) (w : World) : Prop := wpListIn Fence.wide 2 P ol.toArray Q rest (act l) w
theorem c_regionI {id : Nat} {ol : List Oper} (h : WI P ol Q ol l w) : C none P (.region id ol.toArray false) Q l w := by
  unfold C
  exact Fr.any (ρ := none) (n := 2) (wpIn_region_lit (n := 2) h)
theorem WI_nil {ol : List Oper} (h : Q .normal (act l) w) : WI P ol Q [] l w := h
theorem WI_op {ol rest : List Oper} {o : Oper} {d : Nat} {v : Value} (hg : o.guard = none) (hd : o.dst = some d) (hr : Runs P o l w v) (k : WI P ol Q rest (upd l d v) w) : WI P ol Q (o :: rest) l w := by
  refine wpListIn_plain hg fun K hK => ⟨fun _ _ => trivial, ?_⟩
  unfold Runs at hr
  have e : o.semAt Fence.wide.round (act l).eval = execOp (act l).eval o := rfl
  rw [e]
  simp only [eval_act, hr, Oper.uponIn_value, hd, put_act]
  exact hK _ _ k
theorem WI_yield {ol rest : List Oper} {d i : Nat} {g x : Operand} {v : Value} {tys : Array TypeId} {T : TypeId} {pos : String} {af : Array Edge} {R : Ending → World → Prop}
    (hg : ev l g = .func (.yield i) #[] #[]) (hx : ev l x = v) (hy : YieldAt Fence.wide 1 P i #[v] w R)
    (hR : ∀ e w', R e w' → ∃ b, e = .returned (.bool b))
    (k : ∀ b w', R (.returned (.bool b)) w' → WI P ol Q rest (upd l d (.bool b)) w') :
    WI P ol Q (⟨some d, .call { callee := .value g, args := #[x], argTypes := tys }, T, pos, af, none⟩ :: rest) l w := by
  refine wpListIn_plain rfl fun K hK => ⟨fun _ _ => trivial, ?_⟩
  obtain ⟨fn, tmps, assign, body, h1, h2⟩ := hy
  have hrun : (execOp (ev l) ⟨some d, .call { callee := .value g, args := #[x], argTypes := tys }, T, pos, af, none⟩).run P w = .ok (.round i fn tmps assign body) w := by
    simp [execOp, resolve, hg, hx, Deferred.ofValue, invoke, Sem.run_bind, Result.andThen, h1]
  have e : Oper.semAt Fence.wide.round (act l).eval ⟨some d, .call { callee := .value g, args := #[x], argTypes := tys }, T, pos, af, none⟩ = execOp (act l).eval ⟨some d, .call { callee := .value g, args := #[x], argTypes := tys }, T, pos, af, none⟩ := rfl
  rw [e]
  simp only [eval_act, hrun, Oper.uponIn_round]
  refine ⟨(fun h => by cases h), h2.mono ?_⟩
  intro e w' he
  obtain ⟨b, rfl⟩ := hR _ _ he
  show K ((act l).put (some d) (.bool b)) w'
  rw [put_act]
  exact hK _ _ (k b w' he)
/-- What a block that holds no cells does not touch. -/
theorem Bx.notCells {w w' : World} {b : Nat} {cs : List Value} {T : TypeId} {row : Option Nat} (h : Bx w b cs T) (hg : w.grownBy w' row) (hr : ∀ r, row = some r → ∃ o : Obj, w.heap[r]? = some o ∧ o.isCells = false) : Bx w' b cs T := by
  refine h.grown hg fun e => ?_
  obtain ⟨o, h1, h2⟩ := hr b e.symm
  unfold Bx at h
  rw [h] at h1
  cases h1
  cases h2
theorem Own.notCells {E : TypeId} {base : Nat} {w w' : World} {v : Value} {xs : List Int} {row : Option Nat} (h : Own E base w v xs) (hg : w.grownBy w' row) (hr : ∀ r, row = some r → ∃ o : Obj, w.heap[r]? = some o ∧ o.isCells = false) : Own E base w' v xs := by
  unfold Own at *
  refine ⟨h.1, h.2.kept hg ?_⟩
  rcases h.2.2 with ⟨rfl, _⟩ | ⟨g, cap, cur, rfl, hb, hh, _⟩
  · exact .inl rfl
  · refine .inr fun e => ?_
    obtain ⟨o, h1, h2⟩ := hr g e.symm
    rw [hh] at h1
    cases h1
    cases h2
theorem OwnP.notCells {E : TypeId} {base : Nat} {w w' : World} {v : Value} {xs : List (Int × Int)} {row : Option Nat} (h : OwnP E base w v xs) (hg : w.grownBy w' row) (hr : ∀ r, row = some r → ∃ o : Obj, w.heap[r]? = some o ∧ o.isCells = false) : OwnP E base w' v xs := by
  unfold OwnP at *
  refine ⟨h.1, h.2.kept hg ?_⟩
  rcases h.2.2 with ⟨rfl, _⟩ | ⟨g, cap, cur, rfl, hb, hh, _⟩
  · exact .inl rfl
  · refine .inr fun e => ?_
    obtain ⟨o, h1, h2⟩ := hr g e.symm
    rw [hh] at h1
    cases h1
    cases h2
theorem keeps_of_grown {w w' : World} {b : Nat} {cs : List Value} {T : TypeId} (h : Bx w b cs T) (hg : w.grownBy w' (some b)) : KeepsOthers w w' := by
  refine ⟨hg.size, fun k o hk ho => ?_⟩
  rw [hg.block k (Array.getElem?_eq_some_iff.1 hk).1 ?_, hk]
  intro e
  cases e
  unfold Bx at h
  rw [h] at hk
  cases hk
  cases ho
theorem keeps_of_ex {w w' : World} (h : Ex w w') : KeepsOthers w w' := ⟨h.size, fun k o hk _ => (h.grownBy.block k (Array.getElem?_eq_some_iff.1 hk).1 (by simp)).trans hk⟩
theorem keeps_of_own {E : TypeId} {base : Nat} {w w' : World} {v : Value} {xs : List Int} (h : Own E base w v xs) (hg : w.grownBy w' v.ownBlock) : KeepsOthers w w' := by
  refine ⟨hg.size, fun k o hk ho => ?_⟩
  rw [hg.block k (Array.getElem?_eq_some_iff.1 hk).1 ?_, hk]
  intro e
  unfold Own at h
  rcases h.2.2 with ⟨rfl, _⟩ | ⟨g, cap, cur, rfl, hb, hh, _⟩
  · cases e
  · cases e
    rw [hh] at hk
    cases hk
    cases ho
theorem grown_own {E : TypeId} {base : Nat} {w0 w w' : World} {v : Value} {xs : List Int} {row : Option Nat} (h0 : w0.grownBy w row) (h : Own E base w v xs) (hg : w.grownBy w' v.ownBlock) (hb : w0.heap.size ≤ base) : w0.grownBy w' row :=
  ⟨hg.os.trans h0.os, hg.tape.trans h0.tape, hg.output.trans h0.output, Nat.le_trans h0.size hg.size, fun i hi hne => (hg.block i (Nat.lt_of_lt_of_le hi h0.size) (fun e => by unfold Own at h; have := h.2.lt i e.symm; omega)).trans (h0.block i hi hne)⟩
theorem grown_ex {w0 w w' : World} {row : Option Nat} (h0 : w0.grownBy w row) (h : Ex w w') : w0.grownBy w' row := by
  have hg := h.grownBy
  exact ⟨hg.os.trans h0.os, hg.tape.trans h0.tape, hg.output.trans h0.output, Nat.le_trans h0.size hg.size, fun i hi hne => (hg.block i (Nat.lt_of_lt_of_le hi h0.size) (by simp)).trans (h0.block i hi hne)⟩
theorem grown_from {w0 w1 w2 : World} {row row' : Option Nat} (h : w0.grownBy w1 row) (k : w1.grownBy w2 row') (hr : ∀ r, row' = some r → w0.heap.size ≤ r) : w0.grownBy w2 row :=
  ⟨k.os.trans h.os, k.tape.trans h.tape, k.output.trans h.output, Nat.le_trans h.size k.size, fun i hi hne => (k.block i (Nat.lt_of_lt_of_le hi h.size) (fun e => by have := hr i e.symm; omega)).trans (h.block i hi hne)⟩
theorem ownFrom_at {β : Type} {B : Nat} {I : β → World → Prop} (h : OwnFrom B I) {s : β} {A : World} {i : Nat} {o o' : Obj} (hs : I s A) (hB : B ≤ i) (hi : A.heap[i]? = some o) (ho : o.isCells = false) : I s (A.putObj i o') :=
  h s A _ (some i) hs (grownBy_putObj' A i o') fun r e => by cases e; exact ⟨hB, o, hi, ho⟩
/-- Operations that stand ahead of others in a region under the wide fence. -/
theorem list_pre {ops : Array Oper} {rest : List Oper} : ∀ (pre : List Oper) (a : Act) (w : World), (∀ o ∈ pre, ∀ c, o.op ≠ .defer c) →
    wpList P ops (fun e a w => e = .normal ∧ wpListIn Fence.wide 2 P ops Q rest a w) pre a w → wpListIn Fence.wide 2 P ops Q (pre ++ rest) a w
  | [], a, w, _, h => by
    simp only [wpList] at h
    exact h.2
  | o :: pre, a, w, hnd, h => by
    have ih := fun a w => list_pre (ops := ops) (rest := rest) pre a w (fun o ho => hnd o (List.mem_cons_of_mem _ ho))
    have hsem : ∀ ρ, o.semAt Fence.wide.round ρ = execOp ρ o := fun ρ => Oper.semAt_eq _ _ _ (hnd o (List.mem_cons_self ..))
    simp only [wpList] at h
    simp only [List.cons_append, wpListIn]
    by_cases hw : Region.wanted o (yielded ops a.tmps) = true
    · rw [if_pos hw] at h
      rw [if_pos hw]
      rcases h with h | ⟨_, a', w', h⟩
      · refine ⟨fun f _ => trivial, ?_⟩
        rw [hsem a.eval]
        unfold Oper.wp at h
        unfold Oper.upon at h
        unfold Oper.uponIn
        split at h
        · next v w' hr => simp only [hr]; exact ih _ _ h
        · next w' hr => simp only [hr]; exact ih _ _ h
        · next d w' hr => simp only [hr]; exact ih _ _ h
        · next f args w' hr =>
          simp only [hr]
          refine ⟨(fun h => by cases h), callsIn_wide.2 (Calls.mono h ?_)⟩
          rintro e w'' he
          cases e with
          | returned v => exact ih _ _ he
          | panicked ch => exact absurd he.1 (by simp)
          | outgrown => obtain ⟨a1, w1, h1⟩ := he; exact absurd h1.1 (by simp)
        · next row args w' hr =>
          simp only [hr]
          refine ⟨(fun h => by cases h), fun c cs _ => ?_⟩
          obtain ⟨v, w2, h1, h2⟩ := (Rows.mono h (fun v w'' he => ih _ _ he)) c cs
          exact ⟨v, w2, h1, stepsIn_wide.2 h2⟩
        · next v w' hr => exact absurd h.1 (by simp)
        · exact h.elim
      · exact absurd h.1 (by simp)
    · rw [if_neg hw] at h
      rw [if_neg hw]
      exact ⟨fun f _ => trivial, ih _ _ h⟩
theorem c_regionP {id : Nat} {ol pre rest : List Oper} (mp mr : List Bool) (hp : sel mp ol = pre) (hr : sel mr ol = rest) (ha : pre ++ rest = ol) (hnd : nodef pre = true)
    (h : W P ol (fun e a w => e = .normal ∧ wpListIn Fence.wide 2 P ol.toArray Q rest a w) pre l w) : C none P (.region id ol.toArray false) Q l w := by
  refine c_regionI ?_
  unfold WI
  unfold W at h
  have := list_pre pre _ w (nodef_ok hnd) h
  rw [ha] at this
  exact this
theorem WP_nil {ol rest : List Oper} (h : WI P ol Q rest l w) : (fun (e : Exit) (a : Act) (w : World) => e = Exit.normal ∧ wpListIn Fence.wide 2 P ol.toArray Q rest a w) .normal (act l) w := ⟨rfl, h⟩
/-- The other operations of the region behind its call of yield. -/
theorem WI_rest {ol rest : List Oper} (hnd : nodef rest = true) (h : W P ol (NQ Q) rest l w) : WI P ol Q rest l w := by
  unfold W at h
  unfold WI
  exact list_in (ρ := none) (n := 2) (fun e a w h => by obtain ⟨rfl, h⟩ := h; exact h) (fun a w h => by cases h.1) rest _ w (nodef_ok hnd) h
theorem WI_take {ol rest : List Oper} {od : Option Nat} {op : Op} {T : TypeId} {pos : String} {af : Array Edge} {j dj : Nat} {want b : Bool} (hj : dstAt ol j = some dj) (hv : nth l dj = .bool b) (hne : (b == want) = true)
    (k : WI P ol Q (⟨od, op, T, pos, af, none⟩ :: rest) l w) : WI P ol Q (⟨od, op, T, pos, af, some (j, want)⟩ :: rest) l w := by
  unfold WI at *
  have h1 : Region.wanted ⟨od, op, T, pos, af, some (j, want)⟩ (yielded ol.toArray (act l).tmps) = true := by rw [wanted_of rfl hj hv, hne]
  have h0 : Region.wanted ⟨od, op, T, pos, af, none⟩ (yielded ol.toArray (act l).tmps) = true := rfl
  simp only [wpListIn] at k ⊢
  rw [if_pos h0] at k
  rw [if_pos h1]
  exact k
/-- A call of yield with any arguments. -/
theorem WI_yieldN {ol rest : List Oper} {d i : Nat} {g : Operand} {xs : List Operand} {vs : List Value} {tys : Array TypeId} {T : TypeId} {pos : String} {af : Array Edge} {R : Ending → World → Prop}
    (hg : ev l g = .func (.yield i) #[] #[]) (hx : evs l xs = vs) (hy : YieldAt Fence.wide 1 P i vs.toArray w R)
    (hR : ∀ e w', R e w' → ∃ b, e = .returned (.bool b))
    (k : ∀ b w', R (.returned (.bool b)) w' → WI P ol Q rest (upd l d (.bool b)) w') :
    WI P ol Q (⟨some d, .call { callee := .value g, args := xs.toArray, argTypes := tys }, T, pos, af, none⟩ :: rest) l w := by
  refine wpListIn_plain rfl fun K hK => ⟨fun _ _ => trivial, ?_⟩
  obtain ⟨fn, tmps, assign, body, h1, h2⟩ := hy
  have hrun : (execOp (ev l) ⟨some d, .call { callee := .value g, args := xs.toArray, argTypes := tys }, T, pos, af, none⟩).run P w = .ok (.round i fn tmps assign body) w := by
    simp only [execOp, resolve, hg, List.map_toArray, map_evs, hx]
    simp [Deferred.ofValue, invoke, Sem.run_bind, Result.andThen, h1]
  have e : Oper.semAt Fence.wide.round (act l).eval ⟨some d, .call { callee := .value g, args := xs.toArray, argTypes := tys }, T, pos, af, none⟩ = execOp (act l).eval ⟨some d, .call { callee := .value g, args := xs.toArray, argTypes := tys }, T, pos, af, none⟩ := rfl
  rw [e]
  simp only [eval_act, hrun, Oper.uponIn_round]
  refine ⟨(fun h => by cases h), h2.mono ?_⟩
  intro e w' he
  obtain ⟨b, rfl⟩ := hR _ _ he
  show K ((act l).put (some d) (.bool b)) w'
  rw [put_act]
  exact hK _ _ (k b w' he)
/-- The state with one mark more. -/
def mkd (D : Nat) (l : St) : St := ⟨l.n, l.u, l.ps, D :: l.ds⟩
/-- The state in a round. -/
def rnd (l : St) : St := ⟨l.n, l.u, l.ps, []⟩
/-- **A range over a function: what the assignments to its variables make is said by J.** -/
theorem c_rangeB {α : Type} {ps : Array Tmp} {g : Operand} {assign body : Code} {gf : Nat} {lb : Array Value} {encs : α → Array Value} {Kp : World → World → Prop} {S Sp : List α → Prop} {N : Nat}
    (hg : ev l g = .func (.func gf) #[] lb) (eg : ∀ args w, (callFunc gf args).run P w = .ok (.enter gf args) w) (hseq : SeqStopsK Fence.wide 2 P gf lb encs Kp S Sp N w)
    (hKt : ∀ {A B C : World}, Kp A B → Kp B C → Kp A C) (hKb : ∀ (A : World) (i : Nat) (o o' : Obj), w.heap.size ≤ i → A.heap[i]? = some o → o.isCells = false → o.isWalk = false → Kp A (A.putObj i o')) (hps : ∀ x, (encs x).size = ps.size)
    (I : List α → World → Prop) (Ix : Code → List α → World → Prop) (J : List α → α → Act → World → Prop) (hI : OwnFrom w.heap.size I) (hIx : ∀ c, OwnFrom w.heap.size (Ix c)) (hJ : ∀ a, OwnFrom w.heap.size fun (p : List α × α) A => J p.1 p.2 a A) (h0 : I [] w)
    (hassign : ∀ (i : Nat) (pre : List α) (x : α) (A : World), I pre A → pre.length < N → assign.wpIn (Fence.wide.inRound i) 1 P (Exit.then (fun a' A' => J pre x a' A' ∧ KeepsOthers A A' ∧ Kp A A') fun _ _ _ => False)
      { tmps := (ps.zip (encs x)).foldl (fun t (p, v) => t.setIfInBounds p v) (act l).tmps, defers := [] } A)
    (hbody : ∀ (i : Nat) (pre : List α) (x : α) (a' : Act) (A : World), J pre x a' A → body.wpIn (Fence.wide.inRound i) 1 P (ownPostK Kp I Ix (pre ++ [x]) A) a' A)
    (hdone : ∀ (D : Nat) (xs : List α) (A : World), w.heap.size ≤ D → S xs → I xs A → A.heap[D]? = some (.deferred (some [])) → Q .normal (act (mkd D l)) A)
    (hstop : ∀ (D : Nat) (c : Code) (pre : List α) (A : World), w.heap.size ≤ D → Sp pre → Ix c pre A → A.heap[D]? = some (.deferred (some [])) → C none P c Q (mkd D l) A) :
    C none P (.rangeFunc g ps assign body) Q l w := by
  unfold C at *
  refine Fr.any (ρ := none) (n := 3) (wpIn_rangeFunc (F := Fence.wide) fun fn hfn => ?_)
  -- the record of this loop, by its state
  obtain ⟨rc, hrc⟩ : ∃ rc : LoopState → Option Code → Loop, rc = fun st pe => { state := st, pending := pe, fn, tmps := (act l).tmps, params := ps, assign, body, defers := w.heap.size } := ⟨_, rfl⟩
  have hrd : (rc .ready none).state = .ready := by rw [hrc]
  obtain ⟨V, hV⟩ : ∃ V, V = (w.alloc (.deferred (some []))).alloc (.loop (rc .ready none)) := ⟨_, rfl⟩
  have b1 : Below w.heap.size w V := by
    rw [hV]; exact ((Below.refl _ w).alloc (Nat.le_refl _) _).alloc (by simp) _
  have b2 : V.heap[w.heap.size + 1]? = some (.loop (rc .ready none)) := by
    have := World.alloc_heap_new (w.alloc (.deferred (some []))) (.loop (rc .ready none))
    rw [World.size_alloc] at this
    rw [hV]; exact this
  have b3 : V.heap[w.heap.size]? = some (.deferred (some [])) := by
    rw [hV]; exact (Below.heap_alloc _ _ _ (by simp)).trans (World.alloc_heap_new w _)
  have b4 : I [] V := by
    rw [hV]; exact hI _ _ _ none (hI _ _ _ none h0 (World.grownBy_alloc _ _ none) (by intro r e; cases e)) (World.grownBy_alloc _ _ none) (by intro r e; cases e)
  have b5 : V.heap.size = w.heap.size + 2 := by rw [hV]; simp
  refine ⟨w.heap.size + 1, [{ target := .collected w.heap.size, args := #[] }], V, { target := .fn (.func gf) lb, args := #[.func (.yield (w.heap.size + 1)) #[] #[]] }, V, gf,
    #[.func (.yield (w.heap.size + 1)) #[] #[]] ++ lb, V, ?_, ?_, ?_, ?_, (fun h => by cases h), ?_⟩
  · have := run_enterLoop_outer (P := P) (w := w) fn (act l).tmps ps assign body
    rw [hV, hrc]
    exact this
  · have hg' : (act l).eval g = .func (.func gf) #[] lb := by rw [eval_act]; exact hg
    simp only [resolve, hg']
    simp [go_sem]
  · intro f' hf'
    exact trivial
  · simp [invoke, go_sem, eg]
  -- what the iterator is told: the caller's word, the record, the block of the rounds' deferred calls
  refine (hseq (w.heap.size + 1)
    (fun pre A => (I pre A ∧ A.heap[w.heap.size]? = some (.deferred (some []))) ∧ A.heap[w.heap.size + 1]? = some (.loop (rc .ready none)))
    (fun pre A => ∃ c, (Ix c pre A ∧ A.heap[w.heap.size]? = some (.deferred (some []))) ∧ A.heap[w.heap.size + 1]? = some (.loop (rc .done (some c)))) V b1 ?_ ?_ ?_ ⟨⟨b4, b3⟩, b2⟩).mono ?_
  · rintro s A B row ⟨⟨h1, h2⟩, h3⟩ hgr hr
    have hr' : ∀ r, row = some r → w.heap.size ≤ r ∧ ∃ o : Obj, A.heap[r]? = some o ∧ o.isCells = false := fun r e => by
      obtain ⟨q1, o, q2, q3⟩ := hr r e
      exact ⟨by omega, o, q2, Obj.not_cells_of_walk q3⟩
    exact ⟨⟨hI s A B row h1 hgr hr', (grownBy_keeps hgr (fun r e => (hr r e).2) h2 rfl).trans h2⟩, (grownBy_keeps hgr (fun r e => (hr r e).2) h3 rfl).trans h3⟩
  · rintro s A B row ⟨c, ⟨h1, h2⟩, h3⟩ hgr hr
    have hr' : ∀ r, row = some r → w.heap.size ≤ r ∧ ∃ o : Obj, A.heap[r]? = some o ∧ o.isCells = false := fun r e => by
      obtain ⟨q1, o, q2, q3⟩ := hr r e
      exact ⟨by omega, o, q2, Obj.not_cells_of_walk q3⟩
    exact ⟨c, ⟨hIx c s A B row h1 hgr hr', (grownBy_keeps hgr (fun r e => (hr r e).2) h2 rfl).trans h2⟩, (grownBy_keeps hgr (fun r e => (hr r e).2) h3 rfl).trans h3⟩
  · -- a round
    rintro pre x A ⟨⟨h1, h2⟩, h3⟩ hlen
    have hy := run_yield (P := P) (args := encs x) h3 (by rw [hrc]; exact hps x)
    have e1 : (rc .ready none).fn = fn := by rw [hrc]
    have e2 : (rc .ready none).params = ps := by rw [hrc]
    have e3 : (rc .ready none).tmps = (act l).tmps := by rw [hrc]
    have e4 : (rc .ready none).assign = assign := by rw [hrc]
    have e5 : (rc .ready none).body = body := by rw [hrc]
    rw [e1, e2, e3, e4, e5] at hy
    refine ⟨fn, _, assign, body, hy, roundIn_of_wpIn hfn (wpIn_mono (hassign (w.heap.size + 1) pre x A h1 hlen) ?_)⟩
    intro e a1 A1 hp
    cases e with
    | normal =>
      obtain ⟨j1, j2, j3⟩ := hp
      have g3 := j2.same _ _ h3 rfl
      have g2 := j2.same _ _ h2 rfl
      refine ⟨_, run_beginRound g3 hrd, wpIn_mono (hbody (w.heap.size + 1) pre x a1 _ (ownFrom_at (hJ a1) (s := (pre, x)) j1 (by omega) g3 rfl)) ?_⟩
      have lt1 : w.heap.size + 1 < A1.heap.size := (Array.getElem?_eq_some_iff.1 g3).1
      have k3 := World.putObj_heap_same (w := A1) (o := .loop { rc .ready none with state := .busy }) lt1
      have k2 : (A1.putObj (w.heap.size + 1) (.loop { rc .ready none with state := .busy })).heap[w.heap.size]? = some (.deferred (some [])) := (World.putObj_heap_other (by omega)).trans g2
      have kb := hKb A1 (w.heap.size + 1) _ (.loop { rc .ready none with state := .busy }) (by omega) g3 rfl rfl
      -- the round's end, however it is left
      have fin : ∀ (jump : Option Code) (st : LoopState) (B : World), (if jump.isNone then LoopState.ready else .done) = st → KeepsOthers (A1.putObj (w.heap.size + 1) (.loop { rc .ready none with state := .busy })) B →
          ∃ B', (Instr.endRound (w.heap.size + 1) jump).run P B = .ok (.bool jump.isNone) B' ∧ B' = B.putObj (w.heap.size + 1) (.loop (rc st jump)) ∧ B.heap[w.heap.size + 1]? = some (.loop { rc .ready none with state := .busy }) ∧
            B'.heap[w.heap.size + 1]? = some (.loop (rc st jump)) ∧ B'.heap[w.heap.size]? = some (.deferred (some [])) := by
        intro jump st B hst hk
        have m3 := hk.same _ _ k3 rfl
        have := run_endRound (P := P) jump m3
        rw [hst] at this
        have e6 : ({ ({ rc .ready none with state := .busy } : Loop) with state := st, pending := jump } : Loop) = rc st jump := by rw [hrc]
        rw [e6] at this
        exact ⟨_, this, rfl, m3, World.putObj_heap_same (Array.getElem?_eq_some_iff.1 m3).1, (World.putObj_heap_other (by omega)).trans (hk.same _ _ k2 rfl)⟩
      intro e' a2 B hp
      cases e' with
      | normal =>
        obtain ⟨p1, p2, p3⟩ := hp
        obtain ⟨B', q1, rfl, q3, q4, q5⟩ := fin none .ready B rfl p1
        exact ⟨_, _, q1, .inl ⟨rfl, ⟨⟨ownFrom_at hI p3 (by omega) q3 rfl, q5⟩, q4⟩, hKt j3 (hKt kb (hKt p2 (hKb _ _ _ _ (by omega) q3 rfl rfl)))⟩⟩
      | ret =>
        obtain ⟨p1, p3⟩ := hp
        obtain ⟨B', q1, rfl, q3, q4, q5⟩ := fin (some .ret) .done B rfl p1
        exact ⟨_, _, q1, .inr ⟨rfl, _, ⟨ownFrom_at (hIx _) p3 (by omega) q3 rfl, q5⟩, q4⟩⟩
      | exit id =>
        obtain ⟨p1, p3⟩ := hp
        obtain ⟨B', q1, rfl, q3, q4, q5⟩ := fin (some (.exit id)) .done B rfl p1
        exact ⟨_, _, q1, .inr ⟨rfl, _, ⟨ownFrom_at (hIx _) p3 (by omega) q3 rfl, q5⟩, q4⟩⟩
      | goto t =>
        obtain ⟨p1, p3⟩ := hp
        obtain ⟨B', q1, rfl, q3, q4, q5⟩ := fin (some (.goto t)) .done B rfl p1
        exact ⟨_, _, q1, .inr ⟨rfl, _, ⟨ownFrom_at (hIx _) p3 (by omega) q3 rfl, q5⟩, q4⟩⟩
      | panic ch => exact hp.elim
      | outgrown => exact hp.elim
    | ret => exact hp.elim
    | exit id => exact hp.elim
    | goto t => exact hp.elim
    | panic ch => exact hp.elim
    | outgrown => exact hp.elim
  · -- behind the iterator
    rintro e A ⟨⟨v, rfl⟩, (⟨xs, hS, ⟨h1, h2⟩, h3⟩ | ⟨pre, hSp, c, ⟨h1, h2⟩, h3⟩)⟩
    · have := run_endLoop (P := P) h3 (by rw [hrd]; simp)
      have e7 : (rc .ready none).pending = none := by rw [hrc]
      rw [e7] at this
      exact ⟨none, _, this, hdone _ xs _ (Nat.le_refl _) hS (ownFrom_at hI h1 (by omega) h3 rfl) ((World.putObj_heap_other (by omega)).trans h2)⟩
    · have hdn : (rc .done (some c)).state ≠ .busy := by rw [hrc]; simp
      have := run_endLoop (P := P) h3 hdn
      have e7 : (rc .done (some c)).pending = some c := by rw [hrc]
      rw [e7] at this
      exact ⟨some c, _, this, Fr.any (ρ := none) (hstop _ c pre _ (Nat.le_refl _) hSp (ownFrom_at (hIx c) h1 (by omega) h3 rfl) ((World.putObj_heap_other (by omega)).trans h2))⟩
/-- The marks' blocks are no cells: what keeps all else keeps them. -/
def AlH (ds : List Nat) (A : World) : Prop := ∀ D ∈ ds, A.heap[D]? = some (.deferred (some []))
theorem AlH.keep {ds : List Nat} {A B : World} (h : AlH ds A) (k : KeepsOthers A B) : AlH ds B := fun D hD => k.same D _ (h D hD) rfl
theorem AlH.from {β : Type} {ds : List Nat} (h : AlH ds w) : OwnFrom w.heap.size fun (_ : β) A => AlH ds A := by
  intro s A B row hs hg hr D hD
  refine (hg.block D (Array.getElem?_eq_some_iff.1 (hs D hD)).1 (fun e => ?_)).trans (hs D hD)
  have h1 := (hr D e.symm).1
  have h2 := (Array.getElem?_eq_some_iff.1 (h D hD)).1
  omega
theorem Al.cons {B D : Nat} {ds : List Nat} {A : World} (h : Al B w ds) (hB : B ≤ w.heap.size) (hD : w.heap.size ≤ D) (hA : AlH ds A) (hK : A.heap[D]? = some (.deferred (some []))) : Al B A (D :: ds) := by
  refine ⟨List.nodup_cons.2 ⟨fun hm => ?_, h.1⟩, fun D' h' => ?_⟩
  · have := (Array.getElem?_eq_some_iff.1 (h.2 D hm).2).1; omega
  · rcases List.mem_cons.1 h' with rfl | h'
    · exact ⟨by omega, hK⟩
    · exact ⟨(h.2 D' h').1, hA D' h'⟩
theorem Al.keep {B : Nat} {ds : List Nat} {A : World} (h : Al B w ds) (k : KeepsOthers w A) : Al B A ds := ⟨h.1, fun D hD => ⟨(h.2 D hD).1, k.same D _ (h.2 D hD).2 rfl⟩⟩
theorem Al.ex {B : Nat} {ds : List Nat} {A : World} (e : Ex w A) (h : Al B w ds) : Al B A ds := h.keep (keeps_of_ex e)
theorem Al.grownS {B b : Nat} {ds : List Nat} {A : World} {cs : List Value} {T : TypeId} (hg : w.grownBy A (some b)) (hb : Bx w b cs T) (h : Al B w ds) : Al B A ds := h.keep (keeps_of_grown hb hg)
/-- Slots are laid, one by one. -/
def upds (l : St) : List Tmp → List Value → St
  | p :: ps, v :: vs => upds (upd l p v) ps vs
  | _, _ => l
theorem put_upds : ∀ (ps : List Tmp) (vs : List Value) (l : St), ({ tmps := (ps.zip vs).foldl (fun t (p, v) => t.setIfInBounds p v) (act l).tmps, defers := (act l).defers } : Act) = act (upds l ps vs)
  | [], _, l => by simp [upds]
  | _ :: _, [], l => by simp [upds]
  | p :: ps, v :: vs, l => by
    have := put_upds ps vs (upd l p v)
    rw [← put_act] at this
    simpa [upds, Act.put] using this
/-- **A range over a function.** I: what holds between rounds; J: behind the assignments to the loop's variables; Ix: what a round leaves that ends the loop by the jump c. -/
theorem c_range {α : Type} {ps : List Tmp} {g : Operand} {assign body : Code} {gf : Nat} {lb : Array Value} {vs : α → List Value} {Kp : World → World → Prop} {S Sp : List α → Prop} {N : Nat} {B : Nat}
    (hg : ev l g = .func (.func gf) #[] lb) (eg : ∀ args w, (callFunc gf args).run P w = .ok (.enter gf args) w) (hseq : SeqStopsK Fence.wide 2 P gf lb (fun x => (vs x).toArray) Kp S Sp N w)
    (hKt : ∀ {A B C : World}, Kp A B → Kp B C → Kp A C) (hKb : ∀ (A : World) (i : Nat) (o o' : Obj), w.heap.size ≤ i → A.heap[i]? = some o → o.isCells = false → o.isWalk = false → Kp A (A.putObj i o')) (hps : ∀ x, (vs x).length = ps.length)
    (hal : Al B w l.ds) (hB : B ≤ w.heap.size)
    (I : List α → World → Prop) (Ix : Code → List α → World → Prop) (J : List α → α → St → World → Prop) (hI : OwnFrom w.heap.size I) (hIx : ∀ c, OwnFrom w.heap.size (Ix c)) (hJ : ∀ l', OwnFrom w.heap.size fun (p : List α × α) A => J p.1 p.2 l' A) (h0 : I [] w)
    (hassign : ∀ (i : Nat) (pre : List α) (x : α) (A : World), I pre A → pre.length < N → C (some i) P assign (Exit.then (fun a' A' => ∃ l', a' = act l' ∧ J pre x l' A' ∧ KeepsOthers A A' ∧ Kp A A') fun _ _ _ => False) (upds (rnd l) ps (vs x)) A)
    (hbody : ∀ (i : Nat) (pre : List α) (x : α) (l' : St) (A : World), J pre x l' A → C (some i) P body (ownPostK Kp I Ix (pre ++ [x]) A) l' A)
    (hdone : ∀ (D : Nat) (xs : List α) (A : World), w.heap.size ≤ D → S xs → I xs A → Al B A (D :: l.ds) → Q .normal (act (mkd D l)) A)
    (hstop : ∀ (D : Nat) (c : Code) (pre : List α) (A : World), w.heap.size ≤ D → Sp pre → Ix c pre A → Al B A (D :: l.ds) → C none P c Q (mkd D l) A) :
    C none P (.rangeFunc g ps.toArray assign body) Q l w := by
  have hal0 : AlH l.ds w := fun D hD => (hal.2 D hD).2
  refine c_rangeB (encs := fun x => (vs x).toArray) hg eg hseq hKt hKb (fun x => by simpa using hps x) (fun pre A => I pre A ∧ AlH l.ds A) (fun c pre A => Ix c pre A ∧ AlH l.ds A) (fun pre x a A => (∃ l', a = act l' ∧ J pre x l' A) ∧ AlH l.ds A)
    (hI.and hal0.from) (fun c => (hIx c).and hal0.from) ?_ ⟨h0, hal0⟩ ?_ ?_ ?_ ?_
  · rintro a s A B row ⟨⟨l', rfl, h⟩, h2⟩ hg' hr
    exact ⟨⟨l', rfl, hJ l' s A B row h hg' hr⟩, hal0.from s A B row h2 hg' hr⟩
  · intro i pre x A h1 h2
    have := hassign i pre x A h1.1 h2
    unfold C at this
    have e := put_upds ps (vs x) (rnd l)
    have e2 : (({ tmps := (ps.toArray.zip (vs x).toArray).foldl (fun t (p, v) => t.setIfInBounds p v) (act l).tmps, defers := [] }) : Act) = act (upds (rnd l) ps (vs x)) := by
      rw [← e]
      simp [act, rnd]
    rw [e2]
    refine wpIn_mono this ?_
    intro e a w hh
    cases e <;> first | exact hh.elim | skip
    obtain ⟨l', rfl, h3, h4, h5⟩ := hh
    exact ⟨⟨⟨l', rfl, h3⟩, h1.2.keep h4⟩, h4, h5⟩
  · rintro i pre x a A ⟨⟨l', rfl, h⟩, h2⟩
    have := hbody i pre x l' A h
    unfold C at this
    refine wpIn_mono this ?_
    intro e a w hh
    cases e with
    | normal => exact ⟨hh.1, hh.2.1, hh.2.2, h2.keep hh.1⟩
    | ret => exact ⟨hh.1, hh.2, h2.keep hh.1⟩
    | exit id => exact ⟨hh.1, hh.2, h2.keep hh.1⟩
    | goto t => exact ⟨hh.1, hh.2, h2.keep hh.1⟩
    | panic ch => exact hh.elim
    | outgrown => exact hh.elim
  · intro D xs A h1 h2 h3 h4
    exact hdone D xs A h1 h2 h3.1 (hal.cons hB h1 h3.2 h4)
  · intro D c pre A h1 h2 h3 h4
    exact hstop D c pre A h1 h2 h3.1 (hal.cons hB h1 h3.2 h4)
/-- The same, where the assignments to the loop's variables leave the world alone. -/
theorem c_rangeA {α : Type} {ps : List Tmp} {g : Operand} {assign body : Code} {gf : Nat} {lb : Array Value} {vs : α → List Value} {Kp : World → World → Prop} {S Sp : List α → Prop} {N : Nat} {B : Nat} (a₁ : St → α → St)
    (hg : ev l g = .func (.func gf) #[] lb) (eg : ∀ args w, (callFunc gf args).run P w = .ok (.enter gf args) w) (hseq : SeqStopsK Fence.wide 2 P gf lb (fun x => (vs x).toArray) Kp S Sp N w)
    (hKr : ∀ A, Kp A A) (hKt : ∀ {A B C : World}, Kp A B → Kp B C → Kp A C) (hKb : ∀ (A : World) (i : Nat) (o o' : Obj), w.heap.size ≤ i → A.heap[i]? = some o → o.isCells = false → o.isWalk = false → Kp A (A.putObj i o')) (hps : ∀ x, (vs x).length = ps.length)
    (hal : Al B w l.ds) (hB : B ≤ w.heap.size)
    (I : List α → World → Prop) (Ix : Code → List α → World → Prop) (hI : OwnFrom w.heap.size I) (hIx : ∀ c, OwnFrom w.heap.size (Ix c)) (h0 : I [] w)
    (hassign : ∀ (i : Nat) (x : α) (A : World) (K : St → World → Prop), K (a₁ (rnd l) x) A → C (some i) P assign (Exit.then (fun a' A' => ∃ l', a' = act l' ∧ K l' A') fun _ _ _ => False) (upds (rnd l) ps (vs x)) A)
    (hbody : ∀ (i : Nat) (pre : List α) (x : α) (A : World), I pre A → pre.length < N → C (some i) P body (ownPostK Kp I Ix (pre ++ [x]) A) (a₁ (rnd l) x) A)
    (hdone : ∀ (D : Nat) (xs : List α) (A : World), w.heap.size ≤ D → S xs → I xs A → Al B A (D :: l.ds) → Q .normal (act (mkd D l)) A)
    (hstop : ∀ (D : Nat) (c : Code) (pre : List α) (A : World), w.heap.size ≤ D → Sp pre → Ix c pre A → Al B A (D :: l.ds) → C none P c Q (mkd D l) A) :
    C none P (.rangeFunc g ps.toArray assign body) Q l w := by
  refine c_range hg eg hseq hKt hKb hps hal hB I Ix (fun pre x l' A => (l' = a₁ (rnd l) x ∧ pre.length < N) ∧ I pre A) hI hIx (fun l' => ?_) h0 (fun i pre x A h1 h2 => ?_) (fun i pre x l' A h1 => ?_) hdone hstop
  · rintro ⟨pre, x⟩ A A' row hs hg' hr
    exact ⟨hs.1, hI pre A A' row hs.2 hg' hr⟩
  · exact hassign i x A (fun l' A' => ((l' = a₁ (rnd l) x ∧ pre.length < N) ∧ I pre A') ∧ KeepsOthers A A' ∧ Kp A A') ⟨⟨⟨rfl, h2⟩, h1⟩, KeepsOthers.refl A, hKr A⟩
  · obtain ⟨⟨rfl, h2⟩, h3⟩ := h1
    exact hbody i pre x A h3 h2
/-- What no cell has lost: shutting the marks' blocks. -/
theorem shut_grown {w0 : World} {B : Nat} : ∀ (ds : List Nat) (w : World), Al B w ds → Ex w0 w → w0.heap.size ≤ B → Ex w0 (shut ds w)
  | [], w, _, h, _ => h
  | D :: ds, w, hal, h, hB => shut_grown ds _ hal.tail (Ex.of_grown h (grownBy_putObj' _ _ _) (by intro k hk; cases hk; have := (hal.2 D (List.mem_cons_self ..)).1; omega)) hB
theorem shut_fact {B : Nat} {F : World → Prop} (hF : ∀ (A : World) (D : Nat) (o : Obj), F A → A.heap[D]? = some o → o.isCells = false → F (A.putObj D (.deferred none))) : ∀ (ds : List Nat) (w : World), Al B w ds → F w → F (shut ds w)
  | [], w, _, h => h
  | D :: ds, w, hal, h => shut_fact hF ds _ hal.tail (hF _ _ _ h (hal.2 D (List.mem_cons_self ..)).2 rfl)
theorem Bx.shut {B b : Nat} {cs : List Value} {T : TypeId} {ds : List Nat} (hal : Al B w ds) (h : Bx w b cs T) : Bx (shut ds w) b cs T :=
  shut_fact (F := fun A => Bx A b cs T) (fun A D o h1 h2 h3 => h1.notCells (grownBy_putObj' _ _ _) (fun r e => by cases e; exact ⟨_, h2, h3⟩)) ds w hal h
theorem Own.shut {B : Nat} {E : TypeId} {base : Nat} {v : Value} {xs : List Int} {ds : List Nat} (hal : Al B w ds) (h : Own E base w v xs) : Own E base (shut ds w) v xs :=
  shut_fact (F := fun A => Own E base A v xs) (fun A D o h1 h2 h3 => h1.notCells (grownBy_putObj' _ _ _) (fun r e => by cases e; exact ⟨_, h2, h3⟩)) ds w hal h
theorem OwnP.shut {B : Nat} {E : TypeId} {base : Nat} {v : Value} {xs : List (Int × Int)} {ds : List Nat} (hal : Al B w ds) (h : OwnP E base w v xs) : OwnP E base (shut ds w) v xs :=
  shut_fact (F := fun A => OwnP E base A v xs) (fun A D o h1 h2 h3 => h1.notCells (grownBy_putObj' _ _ _) (fun r e => by cases e; exact ⟨_, h2, h3⟩)) ds w hal h
/-- One result in a cell, with marks. -/
theorem m_retc {B : Nat} {fn : Func} {t T T' b : Nat} {u : Value} {d : TypeDesc} {R : Ending → World → Prop} (hal : Al B w l.ds) (hr : fn.results = #[.cell t T]) (h' : Und P T d) (hd : aggD d = false) (ht : nth l t = .pointer (some ⟨b, 0, none⟩)) (hb : Bx w b [u] T') (h : R (.returned u) (shut l.ds w)) :
    BP P fn R .ret (act l) w := by
  refine bp_marks hal ⟨u, ?_, h⟩
  have h4 : (act l).tmps[t]?.getD undef = .pointer (some ⟨b, 0, none⟩) := by rw [← ht]; exact nth_eq ..
  have h5 : (shut l.ds w).cell? ⟨b, 0, none⟩ = some u := ((hb.shut hal).cell 0).trans rfl
  simp [results, hr, h4, asAddr, loadVar, h'.isAgg, hd, Sem.run_bind, Result.andThen]
  rw [h5]
theorem keeps_gr {w' : World} {b : Nat} {cs : List Value} {T : TypeId} (hg : w.grownBy w' (some b)) (h : Bx w b cs T) : KeepsOthers w w' := keeps_of_grown h hg
end
end Go.Pv
