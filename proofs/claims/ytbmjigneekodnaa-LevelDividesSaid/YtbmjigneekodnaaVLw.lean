/-
  What this text proves: a range over a function whose iterator says something of each element at the world in which it gives it; a slice made whole, and stores into it. Over any program.
-/
import Derived.Test.YtbmjigneekodnaaVLv
import Derived.Test.YtbmjigneekodnaaR1
import Derived.Test.YtbmjigneekodnaaVr
import Derived.Laws.MakeOwn
set_option linter.unusedVariables false
set_option linter.unusedSimpArgs false
namespace Go.Pv
open Go Go.RowKit
/-- An iterator's contract, where it says T of each element at the world of its call of yield. -/
def SeqStopsT {α : Type} (F : Fence) (n : Nat) (P : Program) (g : Nat) (lb : Array Value) (encs : α → Array Value) (Kp : World → World → Prop) (T : α → World → Prop) (S Sp : List α → Prop) (N : Nat) (w : World) : Prop :=
  ∀ (l : Nat) (J Jx : List α → World → Prop) (W : World), Below w.heap.size w W → AbidesFrom W.heap.size J → AbidesFrom W.heap.size Jx →
    (∀ pre x W1, J pre W1 → T x W1 → pre.length < N → YieldAt F (n - 1) P l (encs x) W1 fun e W' =>
      (e = .returned (.bool true) ∧ J (pre ++ [x]) W' ∧ Kp W1 W') ∨ (e = .returned (.bool false) ∧ Jx (pre ++ [x]) W')) →
    J [] W →
    CallsIn F n P g (#[.func (.yield l) #[] #[]] ++ lb) W fun e W' => (∃ v, e = .returned v) ∧ ((∃ xs, S xs ∧ J xs W') ∨ (∃ pre, Sp pre ∧ Jx pre W'))
section
variable {P : Program} {Q : Exit → Act → World → Prop} {l : St} {w : World} {c : Code}
theorem c_rangeBT {α : Type} {ps : Array Tmp} {g : Operand} {assign body : Code} {gf : Nat} {lb : Array Value} {encs : α → Array Value} {Kp : World → World → Prop} {T : α → World → Prop} {S Sp : List α → Prop} {N : Nat}
    (hg : ev l g = .func (.func gf) #[] lb) (eg : ∀ args w, (callFunc gf args).run P w = .ok (.enter gf args) w) (hseq : SeqStopsT Fence.wide 2 P gf lb encs Kp T S Sp N w)
    (hKt : ∀ {A B C : World}, Kp A B → Kp B C → Kp A C) (hKb : ∀ (A : World) (i : Nat) (o o' : Obj), w.heap.size ≤ i → A.heap[i]? = some o → o.isCells = false → o.isWalk = false → Kp A (A.putObj i o')) (hps : ∀ x, (encs x).size = ps.size)
    (I : List α → World → Prop) (Ix : Code → List α → World → Prop) (J : List α → α → Act → World → Prop) (hI : OwnFrom w.heap.size I) (hIx : ∀ c, OwnFrom w.heap.size (Ix c)) (hJ : ∀ a, OwnFrom w.heap.size fun (p : List α × α) A => J p.1 p.2 a A) (h0 : I [] w)
    (hassign : ∀ (i : Nat) (pre : List α) (x : α) (A : World), I pre A → T x A → pre.length < N → assign.wpIn (Fence.wide.inRound i) 1 P (Exit.then (fun a' A' => J pre x a' A' ∧ KeepsOthers A A' ∧ Kp A A') fun _ _ _ => False)
      { tmps := (ps.zip (encs x)).foldl (fun t (p, v) => t.setIfInBounds p v) (act l).tmps, defers := [] } A)
    (hbody : ∀ (i : Nat) (pre : List α) (x : α) (a' : Act) (A : World), J pre x a' A → body.wpIn (Fence.wide.inRound i) 1 P (ownPostK Kp I Ix (pre ++ [x]) A) a' A)
    (hdone : ∀ (D : Nat) (xs : List α) (A : World), w.heap.size ≤ D → S xs → I xs A → A.heap[D]? = some (.deferred (some [])) → Q .normal (mk D (act l)) A)
    (hstop : ∀ (D : Nat) (c : Code) (pre : List α) (A : World), w.heap.size ≤ D → Sp pre → Ix c pre A → A.heap[D]? = some (.deferred (some [])) → c.wp P Q (mk D (act l)) A) :
    C P (.rangeFunc g ps assign body) Q l w := by
  unfold C
  refine (wpIn_wide (n := 3)).1 (wpIn_rangeFunc fun fn hfn => ?_)
  -- the record of this loop, by its state
  obtain ⟨rc, hrc⟩ : ∃ rc : LoopState → Option Code → Loop, rc = fun st pe => { state := st, pending := pe, fn, tmps := (act l).tmps, params := ps, assign, body, defers := w.heap.size } := ⟨_, rfl⟩
  have hrd : (rc .ready none).state = .ready := by rw [hrc]
  obtain ⟨V, hV⟩ : ∃ V, V = (w.alloc (.deferred (some []))).alloc (.loop (rc .ready none)) := ⟨_, rfl⟩
  have b1 : Below w.heap.size w V := by
    rw [hV]; exact ((Below.refl _ w).alloc (Nat.le_refl _) _).alloc (by simp) _
  have b2 : V.heap[w.heap.size + 1]? = some (.loop (rc .ready none)) := by
    have := World.alloc_heap_new (w.alloc (.deferred (some []))) (.loop (rc .ready none))
    rw [World.size_alloc] at this
    rw [hV]; exact this
  have b3 : V.heap[w.heap.size]? = some (.deferred (some [])) := by
    rw [hV]; exact (Below.heap_alloc _ _ _ (by simp)).trans (World.alloc_heap_new w _)
  have b4 : I [] V := by
    rw [hV]; exact hI _ _ _ none (hI _ _ _ none h0 (World.grownBy_alloc _ _ none) (by intro r e; cases e)) (World.grownBy_alloc _ _ none) (by intro r e; cases e)
  have b5 : V.heap.size = w.heap.size + 2 := by rw [hV]; simp
  refine ⟨w.heap.size + 1, [{ target := .collected w.heap.size, args := #[] }], V, { target := .fn (.func gf) lb, args := #[.func (.yield (w.heap.size + 1)) #[] #[]] }, V, gf,
    #[.func (.yield (w.heap.size + 1)) #[] #[]] ++ lb, V, ?_, ?_, ?_, ?_, (fun h => by cases h), ?_⟩
  · have := run_enterLoop_outer (P := P) (w := w) fn (act l).tmps ps assign body
    rw [hV, hrc]
    exact this
  · have hg' : (act l).eval g = .func (.func gf) #[] lb := by rw [eval_act]; exact hg
    simp only [resolve, hg']
    simp [go_sem]
  · intro f' hf'
    exact trivial
  · simp [invoke, go_sem, eg]
  -- what the iterator is told: the caller's word, the record, the block of the rounds' deferred calls
  refine (hseq (w.heap.size + 1)
    (fun pre A => (I pre A ∧ A.heap[w.heap.size]? = some (.deferred (some []))) ∧ A.heap[w.heap.size + 1]? = some (.loop (rc .ready none)))
    (fun pre A => ∃ c, (Ix c pre A ∧ A.heap[w.heap.size]? = some (.deferred (some []))) ∧ A.heap[w.heap.size + 1]? = some (.loop (rc .done (some c)))) V b1 ?_ ?_ ?_ ⟨⟨b4, b3⟩, b2⟩).mono ?_
  · rintro s A B row ⟨⟨h1, h2⟩, h3⟩ hgr hr
    have hr' : ∀ r, row = some r → w.heap.size ≤ r ∧ ∃ o : Obj, A.heap[r]? = some o ∧ o.isCells = false := fun r e => by
      obtain ⟨q1, o, q2, q3⟩ := hr r e
      exact ⟨by omega, o, q2, Obj.not_cells_of_walk q3⟩
    exact ⟨⟨hI s A B row h1 hgr hr', (grownBy_keeps hgr (fun r e => (hr r e).2) h2 rfl).trans h2⟩, (grownBy_keeps hgr (fun r e => (hr r e).2) h3 rfl).trans h3⟩
  · rintro s A B row ⟨c, ⟨h1, h2⟩, h3⟩ hgr hr
    have hr' : ∀ r, row = some r → w.heap.size ≤ r ∧ ∃ o : Obj, A.heap[r]? = some o ∧ o.isCells = false := fun r e => by
      obtain ⟨q1, o, q2, q3⟩ := hr r e
      exact ⟨by omega, o, q2, Obj.not_cells_of_walk q3⟩
    exact ⟨c, ⟨hIx c s A B row h1 hgr hr', (grownBy_keeps hgr (fun r e => (hr r e).2) h2 rfl).trans h2⟩, (grownBy_keeps hgr (fun r e => (hr r e).2) h3 rfl).trans h3⟩
  · -- a round
    rintro pre x A ⟨⟨h1, h2⟩, h3⟩ hTx hlen
    have hy := run_yield (P := P) (args := encs x) h3 (by rw [hrc]; exact hps x)
    have e1 : (rc .ready none).fn = fn := by rw [hrc]
    have e2 : (rc .ready none).params = ps := by rw [hrc]
    have e3 : (rc .ready none).tmps = (act l).tmps := by rw [hrc]
    have e4 : (rc .ready none).assign = assign := by rw [hrc]
    have e5 : (rc .ready none).body = body := by rw [hrc]
    rw [e1, e2, e3, e4, e5] at hy
    refine ⟨fn, _, assign, body, hy, roundIn_of_wpIn hfn (wpIn_mono (hassign (w.heap.size + 1) pre x A h1 hTx hlen) ?_)⟩
    intro e a1 A1 hp
    cases e with
    | normal =>
      obtain ⟨j1, j2, j3⟩ := hp
      have g3 := j2.same _ _ h3 rfl
      have g2 := j2.same _ _ h2 rfl
      refine ⟨_, run_beginRound g3 hrd, wpIn_mono (hbody (w.heap.size + 1) pre x a1 _ (ownFrom_at (hJ a1) (s := (pre, x)) j1 (by omega) g3 rfl)) ?_⟩
      have lt1 : w.heap.size + 1 < A1.heap.size := (Array.getElem?_eq_some_iff.1 g3).1
      have k3 := World.putObj_heap_same (w := A1) (o := .loop { rc .ready none with state := .busy }) lt1
      have k2 : (A1.putObj (w.heap.size + 1) (.loop { rc .ready none with state := .busy })).heap[w.heap.size]? = some (.deferred (some [])) := (World.putObj_heap_other (by omega)).trans g2
      have kb := hKb A1 (w.heap.size + 1) _ (.loop { rc .ready none with state := .busy }) (by omega) g3 rfl rfl
      -- the round's end, however it is left
      have fin : ∀ (jump : Option Code) (st : LoopState) (B : World), (if jump.isNone then LoopState.ready else .done) = st → KeepsOthers (A1.putObj (w.heap.size + 1) (.loop { rc .ready none with state := .busy })) B →
          ∃ B', (Instr.endRound (w.heap.size + 1) jump).run P B = .ok (.bool jump.isNone) B' ∧ B' = B.putObj (w.heap.size + 1) (.loop (rc st jump)) ∧ B.heap[w.heap.size + 1]? = some (.loop { rc .ready none with state := .busy }) ∧
            B'.heap[w.heap.size + 1]? = some (.loop (rc st jump)) ∧ B'.heap[w.heap.size]? = some (.deferred (some [])) := by
        intro jump st B hst hk
        have m3 := hk.same _ _ k3 rfl
        have := run_endRound (P := P) jump m3
        rw [hst] at this
        have e6 : ({ ({ rc .ready none with state := .busy } : Loop) with state := st, pending := jump } : Loop) = rc st jump := by rw [hrc]
        rw [e6] at this
        exact ⟨_, this, rfl, m3, World.putObj_heap_same (Array.getElem?_eq_some_iff.1 m3).1, (World.putObj_heap_other (by omega)).trans (hk.same _ _ k2 rfl)⟩
      intro e' a2 B hp
      cases e' with
      | normal =>
        obtain ⟨p1, p2, p3⟩ := hp
        obtain ⟨B', q1, rfl, q3, q4, q5⟩ := fin none .ready B rfl p1
        exact ⟨_, _, q1, .inl ⟨rfl, ⟨⟨ownFrom_at hI p3 (by omega) q3 rfl, q5⟩, q4⟩, hKt j3 (hKt kb (hKt p2 (hKb _ _ _ _ (by omega) q3 rfl rfl)))⟩⟩
      | ret =>
        obtain ⟨p1, p3⟩ := hp
        obtain ⟨B', q1, rfl, q3, q4, q5⟩ := fin (some .ret) .done B rfl p1
        exact ⟨_, _, q1, .inr ⟨rfl, _, ⟨ownFrom_at (hIx _) p3 (by omega) q3 rfl, q5⟩, q4⟩⟩
      | exit id =>
        obtain ⟨p1, p3⟩ := hp
        obtain ⟨B', q1, rfl, q3, q4, q5⟩ := fin (some (.exit id)) .done B rfl p1
        exact ⟨_, _, q1, .inr ⟨rfl, _, ⟨ownFrom_at (hIx _) p3 (by omega) q3 rfl, q5⟩, q4⟩⟩
      | goto t =>
        obtain ⟨p1, p3⟩ := hp
        obtain ⟨B', q1, rfl, q3, q4, q5⟩ := fin (some (.goto t)) .done B rfl p1
        exact ⟨_, _, q1, .inr ⟨rfl, _, ⟨ownFrom_at (hIx _) p3 (by omega) q3 rfl, q5⟩, q4⟩⟩
      | panic ch => exact hp.elim
      | outgrown => exact hp.elim
    | ret => exact hp.elim
    | exit id => exact hp.elim
    | goto t => exact hp.elim
    | panic ch => exact hp.elim
    | outgrown => exact hp.elim
  · -- behind the iterator
    rintro e A ⟨⟨v, rfl⟩, (⟨xs, hS, ⟨h1, h2⟩, h3⟩ | ⟨pre, hSp, c, ⟨h1, h2⟩, h3⟩)⟩
    · have := run_endLoop (P := P) h3 (by rw [hrd]; simp)
      have e7 : (rc .ready none).pending = none := by rw [hrc]
      rw [e7] at this
      exact ⟨none, _, this, hdone _ xs _ (Nat.le_refl _) hS (ownFrom_at hI h1 (by omega) h3 rfl) ((World.putObj_heap_other (by omega)).trans h2)⟩
    · have hdn : (rc .done (some c)).state ≠ .busy := by rw [hrc]; simp
      have := run_endLoop (P := P) h3 hdn
      have e7 : (rc .done (some c)).pending = some c := by rw [hrc]
      rw [e7] at this
      exact ⟨some c, _, this, wpIn_wide.2 (hstop _ c pre _ (Nat.le_refl _) hSp (ownFrom_at (hIx c) h1 (by omega) h3 rfl) ((World.putObj_heap_other (by omega)).trans h2))⟩
theorem c_rangeS1T {α : Type} {p1 : Tmp} {g : Operand} {assign body : Code} {gf : Nat} {lb : Array Value} {v1 : α → Value} {Kp : World → World → Prop} {T : α → World → Prop} {S Sp : List α → Prop} {N : Nat}
    (hg : ev l g = .func (.func gf) #[] lb) (eg : ∀ args w, (callFunc gf args).run P w = .ok (.enter gf args) w) (hseq : SeqStopsT Fence.wide 2 P gf lb (fun x => #[v1 x]) Kp T S Sp N w)
    (hKt : ∀ {A B C : World}, Kp A B → Kp B C → Kp A C) (hKb : ∀ (A : World) (i : Nat) (o o' : Obj), w.heap.size ≤ i → A.heap[i]? = some o → o.isCells = false → o.isWalk = false → Kp A (A.putObj i o'))
    (I : List α → World → Prop) (Ix : Code → List α → World → Prop) (J : St → List α → α → St → World → Prop) (hI : OwnFrom w.heap.size I) (hIx : ∀ c, OwnFrom w.heap.size (Ix c)) (hJ : ∀ l', OwnFrom w.heap.size fun (p : List α × α) A => J l p.1 p.2 l' A) (h0 : I [] w)
    (hassign : ∀ (i : Nat) (pre : List α) (x : α) (A : World), I pre A → T x A → pre.length < N → CR P i assign (Exit.then (fun a' A' => ∃ l', a' = act l' ∧ J l pre x l' A' ∧ KeepsOthers A A' ∧ Kp A A') fun _ _ _ => False) (upd l p1 (v1 x)) A)
    (hbody : ∀ (i : Nat) (pre : List α) (x : α) (l' : St) (A : World), J l pre x l' A → CR P i body (ownPostK Kp I Ix (pre ++ [x]) A) l' A)
    (hdone : ∀ (D : Nat) (xs : List α) (A : World), w.heap.size ≤ D → S xs → I xs A → A.heap[D]? = some (.deferred (some [])) → Q .normal (mk D (act l)) A)
    (hstop : ∀ (D : Nat) (c : Code) (pre : List α) (A : World), w.heap.size ≤ D → Sp pre → Ix c pre A → A.heap[D]? = some (.deferred (some [])) → CD P D c Q l A) :
    C P (.rangeFunc g #[p1] assign body) Q l w := by
  refine c_rangeBT (encs := fun x => #[v1 x]) hg eg hseq hKt hKb (fun _ => rfl) I Ix (fun pre x a A => ∃ l', a = act l' ∧ J l pre x l' A) hI hIx ?_ h0 ?_ ?_ hdone hstop
  · rintro a s A B row ⟨l', rfl, h⟩ hg' hr
    exact ⟨l', rfl, hJ l' s A B row h hg' hr⟩
  · intro i pre x A h1 h2 h3
    have := hassign i pre x A h1 h2 h3
    unfold CR at this
    have e : (({ tmps := (#[p1].zip ((fun x => #[v1 x]) x)).foldl (fun t (p, v) => t.setIfInBounds p v) (act l).tmps, defers := [] }) : Act) = act (upd l p1 (v1 x)) := by
      rw [← put_act]
      simp [Act.put, act]
    rw [e]
    refine wpIn_mono this ?_
    intro e a w hh
    cases e <;> first | exact hh.elim | skip
    obtain ⟨l', rfl, k3, k4⟩ := hh
    exact ⟨⟨l', rfl, k3⟩, k4⟩
  · rintro i pre x a A ⟨l', rfl, h⟩
    exact hbody i pre x l' A h
theorem r_eqNil {od : Option Nat} {ty : TypeId} {pos : String} {af : Array Edge} {x : Operand} {T T2 e : TypeId} {a : Addr} {n c : Nat} [h : Und P T (.slice e)] (hx : ev l x = .slice (some a) n c) : Runs P ⟨od, .binOp .eql T x (.const (.slice none 0 0)) T2, ty, pos, af, none⟩ l w (.bool false) := by
  have h0 : ev l (.const (.slice none 0 0)) = .slice none 0 0 := rfl
  have h1 : (eqGuard .eql T x (.const (.slice none 0 0)) (.slice (some a) n c) (.slice none 0 0)).run P w = .ok () w := by unfold eqGuard; rfl
  have h2 : (Op.equal T (.slice (some a) n c) (.slice none 0 0)).run P w = .ok false w := by
    unfold Op.equal Op.maxDepth Op.equalIn
    simp [h.run]
  simp only [Runs, execOp, hx, h0, Sem.run_bind, h1, Result.andThen_ok, binOp, h2, Sem.run_pure]
variable {ol rest : List Oper} {od : Option Nat} {ty : TypeId} {pos : String} {af : Array Edge}
/-- make of a slice, its length and its room the same. -/
theorem W_make {d m : Nat} {x y : Operand} {T e : TypeId} {z : Value} {n b : Nat} {c : List Value} [hT : Und P T (.slice e)] [hz : Sz P e z n b] (hx : ev l x = .int .i64 (m : Int)) (hy : ev l y = .int .i64 (m : Int)) (hc : (madeCells z.cells (m * n)).toList = c) (hm : m ≤ 1000) (hb : b ≤ 1000000)
    (K : ∀ b' w', Bx w' b' c e → Ex w w' → b' = w.heap.size → W P ol Q rest (upd l d (.slice (some ⟨b', 0, none⟩) m m)) w') : W P ol Q (⟨some d, .makeSlice T x y, ty, pos, af, none⟩ :: rest) l w := by
  subst hc
  obtain ⟨i, h1, h2, h3, h4⟩ := hz.parts
  have hbb : (b : Int) * (m : Int) ≤ 1000000 * 1000 := Int.mul_le_mul (by omega) (by omega) (by omega) (by omega)
  have h := run_make (P := P) w T e i z hT.out h1 h2 .i64 .i64 m m (by omega) (by omega) (by rw [h4]; omega) (by omega)
  simp only [Int.toNat_natCast] at h
  rw [h3] at h
  refine W_run (w' := w.alloc (.cells (madeCells z.cells (m * n)) e)) rfl rfl ?_ (K w.heap.size _ ?_ (Ex.alloc _ _) rfl)
  · simp only [execOp, hx, hy, Sem.run_bind, h, Result.andThen_ok, Sem.run_pure]
  · have := Bx.new w (madeCells z.cells (m * n)).toList e
    simpa using this
/-- The address of an element of a slice that is a whole box. -/
theorem r_indexBx {x ix : Operand} {T e : TypeId} {b i m c n bb : Nat} {k : IntKind} {z : Value} [h : Und P T (.slice e)] [hs : Sz P e z n bb] (hx : ev l x = .slice (some ⟨b, 0, none⟩) m c) (hi : ev l ix = .int k (i : Int)) (hlt : i < m) : Runs P ⟨od, .indexAddr T x ix, ty, pos, af, none⟩ l w (.pointer (some ⟨b, i * n, none⟩)) := by
  have := r_indexAddr (P := P) (T := T) (od := od) (ty := ty) (pos := pos) (af := af) (w := w) (e := e) hx hi hlt
  rwa [add_mk, Nat.zero_add] at this
section rows
variable {α : Type} {f : α → List Value} {n : Nat}
theorem rows_split (hf : ∀ x, (f x).length = n) {xs : List α} {m : Nat} (hm : m < xs.length) (g : α) : xs.flatMap f = (xs.take m).flatMap f ++ (f xs[m] ++ (xs.drop (m + 1)).flatMap f) ∧ (xs.set m g).flatMap f = (xs.take m).flatMap f ++ (f g ++ (xs.drop (m + 1)).flatMap f) ∧ ((xs.take m).flatMap f).length = m * n := by
  refine ⟨?_, ?_, ?_⟩
  · have e : xs = xs.take m ++ (xs[m] :: xs.drop (m + 1)) := by
      rw [List.getElem_cons_drop]; exact (List.take_append_drop m xs).symm
    exact (congrArg (fun l => List.flatMap f l) e).trans (by rw [List.flatMap_append, List.flatMap_cons])
  · rw [List.set_eq_take_append_cons_drop, if_pos hm]
    simp [List.flatMap_append]
  · have : ∀ (l : List α), (l.flatMap f).length = l.length * n := by
      intro l
      induction l with
      | nil => simp
      | cons x r ih => simp [List.flatMap_cons, hf, ih, Nat.succ_mul]; omega
    rw [this, List.length_take, Nat.min_eq_left (by omega)]
/-- A store of an element into a slice that lies in a box. -/
theorem W_storeRB {b o m : Nat} {x y : Operand} {xs : List α} {g : α} {T T' : TypeId} {bytes : Nat} {z : Value} (hf : ∀ x, (f x).length = n) (hone : ∀ u ∈ f g, u.oneCell' = true) [hz : Sz P T z n bytes] (hx : ev l x = .pointer (some ⟨b, o, none⟩)) (ho : o = m * n) (hm : m < xs.length) (hb : Bx w b (xs.flatMap f) T') (hy : ev l y = .agg (f g).toArray)
    (K : ∀ w', Bx w' b ((xs.set m g).flatMap f) T' → w.grownBy w' (some b) → W P ol Q rest l w') : W P ol Q (⟨none, .store T x y, ty, pos, af, none⟩ :: rest) l w := by
  subst ho
  obtain ⟨e1, e2, e3⟩ := rows_split hf hm g
  rw [e1] at hb
  obtain ⟨w', h1, h2, h3⟩ := run_storeCells_mid P b (m * n) T' (f g) 0 _ (f xs[m]) _ w (by simpa using e3) hb (by rw [hf, hf]) hone
  refine W_skp (w' := w') rfl rfl ?_ (K _ (by rw [e2]; exact h2) h3)
  simp [execOp, hx, hy, Instr.storeAt, Instr.sureAddr, storeVar, hz.run, Value.cells, hf, h1]
theorem cells_rows {b m o : Nat} {xs : List α} {T' : TypeId} (d : α) (hf : ∀ x, (f x).length = n) (hb : Bx w b (xs.flatMap f) T') (hm : m < xs.length) (ho : o = m * n) : Cells w ⟨b, o, none⟩ (f (xs.getD m d)) := by
  subst ho
  have e : xs.getD m d = xs[m] := by simp [hm]
  rw [e]
  have h1 := hb.cells
  unfold Cells at h1 ⊢
  intro j v hj
  have := h1 _ _ (row_flat_get hf xs m hm j v hj)
  rw [add_mk] at this ⊢
  simpa using this
end rows
theorem Own.ofV {E : TypeId} {base : Nat} {v : Value} {vs : List Value} {xs : List Int} (h : OwnV E base w v vs) (e : vs = xs.map (Value.int .i64)) : Own E base w v xs := by
  subst e
  unfold OwnV at h
  unfold Own
  simpa using h
end
end Go.Pv
