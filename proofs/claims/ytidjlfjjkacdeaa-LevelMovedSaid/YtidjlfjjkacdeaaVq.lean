/-
  What this text proves: rules for code in a round of a range over a function, and behind such a loop. Over any program.
-/
import Derived.Test.YtidjlfjjkacdeaaVr
import Derived.Test.YtidjlfjjkacdeaaZ
set_option linter.unusedVariables false
set_option linter.unusedSimpArgs false
namespace Go.Pv
open Go.RowKit
section
variable {P : Program} {Q : Exit → Act → World → Prop} {l : St} {w : World} {i D : Nat} {x y c : Code}
/-- Code in a round. -/
def CR (P : Program) (i : Nat) (c : Code) (Q : Exit → Act → World → Prop) (l : St) (w : World) : Prop := c.wpIn (Fence.wide.inRound i) 1 P Q (act l) w
theorem cr_seq (h : CR P i x (Exit.then (y.wpIn (Fence.wide.inRound i) 1 P Q) Q) l w) : CR P i (.seq x y) Q l w := wpIn_seq h
theorem cr_skip (h : Q .normal (act l) w) : CR P i .skip Q l w := wpIn_skip h
theorem cr_ret (h : Q .ret (act l) w) : CR P i .ret Q l w := wpIn_ret h
theorem cr_exit {id : Nat} (h : Q (.exit id) (act l) w) : CR P i (.exit id) Q l w := wpIn_exit h
theorem cr_block {id : Nat} (h : CR P i c (Exit.inBlock id Q) l w) : CR P i (.block id c) Q l w := wpIn_block h
theorem cr_region {id : Nat} {ol : List Oper} (hnd : nodef ol = true) (h : W P ol (fun e a w => e = .normal ∧ Q .normal a w) ol l w) : CR P i (.region id ol.toArray false) Q l w := c_regionR hnd h
theorem cr_cond_dec {o : Operand} {p : Prop} {_ : Decidable p} (hc : ev l o = .bool (decide p)) (ht : p → CR P i x Q l w) (hf : ¬ p → CR P i y Q l w) : CR P i (.cond o x y) Q l w := by
  by_cases hp : p
  · exact wpIn_cond_true (by rw [eval_act, hc]; simp [hp]) (ht hp)
  · exact wpIn_cond_false (by rw [eval_act, hc]; simp [hp]) (hf hp)
theorem nr_then {K : Exit → Act → World → Prop} (h : CR P i y K l w) : Exit.then (y.wpIn (Fence.wide.inRound i) 1 P K) Q .normal (act l) w := h
/-- Code behind a range over a function. -/
def CD (P : Program) (D : Nat) (c : Code) (Q : Exit → Act → World → Prop) (l : St) (w : World) : Prop := c.wp P Q (mk D (act l)) w
theorem cd_seq (h : CD P D x (Exit.then (y.wp P Q) Q) l w) : CD P D (.seq x y) Q l w := wp_seq h
theorem cd_skip (h : Q .normal (mk D (act l)) w) : CD P D .skip Q l w := wp_skip h
theorem cd_ret (h : Q .ret (mk D (act l)) w) : CD P D .ret Q l w := wp_ret h
theorem cd_block {id : Nat} (h : CD P D c (Exit.inBlock id Q) l w) : CD P D (.block id c) Q l w := wp_block h
theorem cd_region {id : Nat} {ol : List Oper} (hnd : nodef ol = true) (h : W P ol (fun e a w => e = .normal ∧ Q .normal (mk D a) w) ol l w) : CD P D (.region id ol.toArray false) Q l w := by
  unfold CD
  exact c_regionD hnd (K := fun a w => Q .normal a w) h fun a w h => h
theorem mk_eval (a : Act) : (mk D a).eval = a.eval := by funext o; cases o <;> rfl
theorem mk_put (a : Act) (d : Option Nat) (v : Value) : (mk D a).put d v = mk D (a.put d v) := by cases d <;> rfl
theorem cd_cond_dec {o : Operand} {p : Prop} {_ : Decidable p} (hc : ev l o = .bool (decide p)) (ht : p → CD P D x Q l w) (hf : ¬ p → CD P D y Q l w) : CD P D (.cond o x y) Q l w := by
  have e : (mk D (act l)).eval o = .bool (decide p) := by rw [mk_eval, eval_act, hc]
  by_cases hp : p
  · exact wp_cond_true (by rw [e]; simp [hp]) (ht hp)
  · exact wp_cond_false (by rw [e]; simp [hp]) (hf hp)
theorem nd_then {K : Exit → Act → World → Prop} (h : CD P D y K l w) : Exit.then (y.wp P K) Q .normal (mk D (act l)) w := h
/-- A list of operations with the mark behind. -/
theorem list_mk {ops : Array Oper} {Q' : Exit → Act → World → Prop} (hq : ∀ e a w, Q e a w → Q' e (mk D a) w) (hout : ∀ a w, ¬ Q .outgrown a w) :
    ∀ (rest : List Oper) (a : Act) (w : World), (∀ o ∈ rest, ∀ c, o.op ≠ .defer c) → wpList P ops Q rest a w → wpList P ops Q' rest (mk D a) w
  | [], a, w, _, h => hq _ _ _ h
  | o :: rest, a, w, hnd, h => by
    have ih := fun a w => list_mk (ops := ops) (Q' := Q') hq hout rest a w (fun o ho => hnd o (List.mem_cons_of_mem _ ho))
    have hd := hnd o (List.mem_cons_self ..)
    simp only [wpList] at h ⊢
    have et : (mk D a).tmps = a.tmps := rfl
    rw [et]
    by_cases hw : Region.wanted o (yielded ops a.tmps) = true
    · rw [if_pos hw] at h ⊢
      rcases h with h | ⟨_, a', w', h⟩
      · left
        unfold Oper.wp at h ⊢
        rw [mk_eval]
        generalize (execOp a.eval o).run P w = res at h ⊢
        unfold Oper.upon at h ⊢
        cases res with
        | ok nx w' =>
          cases nx with
          | value v => show wpList P ops Q' rest ((mk D a).put o.dst v) w'; rw [mk_put]; exact ih _ _ h
          | skip => show wpList P ops Q' rest ((mk D a).put o.dst undef) w'; rw [mk_put]; exact ih _ _ h
          | defer d =>
            have e : ({ mk D a with defers := d :: (mk D a).defers } : Act).put o.dst undef = mk D (({ a with defers := d :: a.defers } : Act).put o.dst undef) := by cases o.dst <;> rfl
            show wpList P ops Q' rest (({ mk D a with defers := d :: (mk D a).defers } : Act).put o.dst undef) w'
            rw [e]; exact ih _ _ h
          | enter f args =>
            refine Calls.mono h ?_
            rintro e w'' he
            cases e with
            | returned v => show wpList P ops Q' rest ((mk D a).put _ _) _; rw [mk_put]; exact ih _ _ he
            | panicked ch => exact hq _ _ _ he
            | outgrown => obtain ⟨a1, w1, h1⟩ := he; exact absurd h1 (hout _ _)
          | row row args =>
            refine Rows.mono h ?_
            intro v w'' he
            show wpList P ops Q' rest ((mk D a).put _ _) _
            rw [mk_put]; exact ih _ _ he
          | _ => exact h.elim
        | halt hl w' =>
          cases hl with
          | panic v => exact hq _ _ _ h
          | _ => exact h.elim
      · exact absurd h (hout _ _)
    · rw [if_neg hw] at h ⊢
      rw [mk_put]; exact ih _ _ h
theorem wpB_mk {ops : Array Oper} {R R' : Act → Prop} (hr : ∀ a, R a → R' (mk D a)) : ∀ (bl : List Oper) (a : Act), wpB P ops R bl a → wpB P ops R' bl (mk D a)
  | [], a, h => hr a h
  | o :: rest, a, h => by
    simp only [wpB] at h ⊢
    obtain ⟨h1, v, h2, h3⟩ := h
    refine ⟨h1, v, by rw [mk_eval]; exact h2, ?_⟩
    rw [mk_put]; exact wpB_mk hr rest _ h3
theorem wpM_mk {ops : Array Oper} {R R' : Act → Prop} (hr : ∀ a, R a → R' (mk D a)) : ∀ (bl : List Oper) (a : Act), wpM P ops w R bl a → wpM P ops w R' bl (mk D a)
  | [], a, h => hr a h
  | o :: rest, a, h => by
    simp only [wpM] at h ⊢
    have et : (mk D a).tmps = a.tmps := rfl
    rw [et]
    by_cases hw : Region.wanted o (yielded ops a.tmps) = true
    · rw [if_pos hw] at h ⊢
      obtain ⟨v, h2, h3⟩ := h
      refine ⟨v, by rw [mk_eval]; exact h2, ?_⟩
      rw [mk_put]; exact wpM_mk hr rest _ h3
    · rw [if_neg hw] at h ⊢
      rw [mk_put]; exact wpM_mk hr rest _ h
theorem wpT_mk {ops : Array Oper} {Q1 Q2 : Act → World → Prop} (hq : ∀ a w, Q1 a w → Q2 (mk D a) w) : ∀ (tl : List (Bool × Oper)) (a : Act) (w : World), (∀ p ∈ tl, ∀ c, p.2.op ≠ .defer c) → wpT P ops Q1 tl a w → wpT P ops Q2 tl (mk D a) w
  | [], a, w, _, h => hq a w h
  | (s, o) :: rest, a, w, hnd, h => by
    have ih := fun a w => wpT_mk (ops := ops) hq rest a w (fun p hp => hnd p (List.mem_cons_of_mem _ hp))
    simp only [wpT] at h ⊢
    refine list_mk (Q := QT s w (wpT P ops Q1 rest)) ?_ ?_ [o] a w ?_ h
    · intro e a' w' hh
      cases e <;> first | exact hh.elim | skip
      exact hh.map fun w'' k => ih _ _ k
    · intro a' w' hh; exact hh
    · intro o' ho'
      simp only [List.mem_singleton] at ho'
      subst ho'
      exact hnd _ (List.mem_cons_self ..)
/-- A region that draws its order, behind the loop. -/
theorem cd_mix {id : Nat} {ol : List Oper} (qb qs ts : List Nat) (mb m : List Bool) (tm : List (Option Bool)) {bl ql : List Oper} {tl : List (Bool × Oper)} [hm : Mixed P]
    (hB : mixB ol.toArray qb qs ts = true) (k0 : sel mb ol = qb.filterMap (ol[·]?)) (k1 : sel m ol = qs.filterMap (ol[·]?)) (k2 : ((selT tm ol).map fun p => p.2) = ts.filterMap (ol[·]?)) (k3 : ((selT tm ol).map fun p => p.1) = ts.map (flg ol.toArray qs qb)) (k4 : ts.length = (selT tm ol).length)
    (k5 : nodef ((selT tm ol).map fun p => p.2) = true)
    (e0 : sel mb ol = bl) (e1 : sel m ol = ql) (e2 : selT tm ol = tl) (h : WB P ol (fun a' => wpM P ol.toArray w (fun a' => ∀ w', Ex w w' → wpT P ol.toArray (fun a w => Q .normal (mk D a) w) tl a' w') ql a') bl l) : CD P D (.region id ol.toArray true) Q l w := by
  subst e0; subst e1; subst e2
  unfold WB at h
  refine wp_mix qb qs ts (sel mb ol) (sel m ol) (selT tm ol) hm.out hB (by simpa using k0) (by simpa using k1) (by simpa using k2) k3 k4 ?_
  refine wpB_mk (fun a ha => wpM_mk (fun a ha w' hw' => wpT_mk (fun a w h => h) _ _ _ ?_ (ha w' hw')) _ _ ha) _ _ h
  intro p hp
  exact nodef_ok k5 p.2 (List.mem_map.2 ⟨p, hp, rfl⟩)
theorem wpOp_mk {ops : Array Oper} {Q1 Q2 : Exit → Act → World → Prop} {K1 K2 : Act → World → Prop} {j : Nat} {a : Act} (hK : ∀ a w, K1 a w → K2 (mk D a) w) (hQ : ∀ e a w, e ≠ .normal → ¬ Q1 e a w) (h : wpOp P ops Q1 j K1 a w) : wpOp P ops Q2 j K2 (mk D a) w := by
  have et : (mk D a).tmps = a.tmps := rfl
  unfold wpOp at *
  split
  · rename_i ho; simp only [ho] at h; exact hK _ _ h
  · rename_i o ho
    simp only [ho] at h
    rw [et]
    by_cases hw : Region.wanted o (yielded ops a.tmps) = true
    · rw [if_pos hw] at h ⊢
      rcases h with h | ⟨h1, a₀, w₀, h2⟩
      · left
        unfold Oper.wp at h ⊢
        rw [mk_eval]
        generalize (execOp a.eval o).run P w = res at h ⊢
        unfold Oper.upon at h ⊢
        cases res with
        | ok nx w' =>
          cases nx with
          | value v => show K2 ((mk D a).put o.dst v) w'; rw [mk_put]; exact hK _ _ h
          | skip => show K2 ((mk D a).put o.dst undef) w'; rw [mk_put]; exact hK _ _ h
          | defer d =>
            have e : ({ mk D a with defers := d :: (mk D a).defers } : Act).put o.dst undef = mk D (({ a with defers := d :: a.defers } : Act).put o.dst undef) := by cases o.dst <;> rfl
            show K2 (({ mk D a with defers := d :: (mk D a).defers } : Act).put o.dst undef) w'
            rw [e]; exact hK _ _ h
          | enter f args =>
            refine Calls.mono h ?_
            rintro e w'' he
            cases e with
            | returned v => show K2 ((mk D a).put _ _) _; rw [mk_put]; exact hK _ _ he
            | panicked ch => exact absurd he (hQ _ _ _ (by simp))
            | outgrown => obtain ⟨a1, w1, h1⟩ := he; exact absurd h1 (hQ _ _ _ (by simp))
          | row row args =>
            refine Rows.mono h ?_
            intro v w'' he
            show K2 ((mk D a).put _ _) _
            rw [mk_put]; exact hK _ _ he
          | _ => exact h.elim
        | halt hl w' =>
          cases hl with
          | panic v => exact absurd h (hQ _ _ _ (by simp))
          | _ => exact h.elim
      · exact absurd h2 (hQ _ _ _ (by simp))
    · rw [if_neg hw] at h ⊢
      rw [mk_put]; exact hK _ _ h
theorem anyXR_mk {ρ : World → World → Prop} {ops : Array Oper} {qs : List Nat} {Q1 Q2 : Act → World → Prop} (hq : ∀ a w, Q1 a w → Q2 (mk D a) w) : ∀ (n : Nat) (listed : Array Bool) (a : Act) (w : World), anyXR ρ P ops qs Q1 n listed a w → anyXR ρ P ops qs Q2 n listed (mk D a) w
  | 0, listed, a, w, h => ⟨h.1, hq _ _ h.2⟩
  | n + 1, listed, a, w, h => by
    refine ⟨fun hr => hq _ _ (h.1 hr), fun j hj => wpOp_mk ?_ ?_ (h.2 j hj)⟩
    · rintro a' w' ⟨h1, h2⟩
      exact ⟨anyXR_mk hq n _ _ _ h1, h2⟩
    · intro e a' w' hne hh
      cases e <;> first | exact hne rfl | exact hh.elim
theorem wpMR_mk {ρ : World → World → Prop} {ops : Array Oper} {R R' : Act → Prop} (hr : ∀ a, R a → R' (mk D a)) : ∀ (bl : List (Bool × Oper)) (a : Act), wpMR ρ P ops w R bl a → wpMR ρ P ops w R' bl (mk D a)
  | [], a, h => hr a h
  | (b, o) :: rest, a, h => by
    simp only [wpMR] at h ⊢
    have et : (mk D a).tmps = a.tmps := rfl
    rw [et]
    by_cases hw : Region.wanted o (yielded ops a.tmps) = true
    · rw [if_pos hw] at h ⊢
      obtain ⟨v, h2, h3⟩ := h
      refine ⟨v, by rw [mk_eval]; exact h2, ?_⟩
      rw [mk_put]; exact wpMR_mk hr rest _ h3
    · rw [if_neg hw] at h ⊢
      rw [mk_put]; exact wpMR_mk hr rest _ h
/-- The same, where operations may write while others still look. -/
theorem cd_mixR {ρ : World → World → Prop} (hρ : Keeps ρ) {id : Nat} {ol : List Oper} (qs0 qs : List Nat) (n : Nat) (l2 : Array Bool) (m : List (Option Bool)) {ql : List (Bool × Oper)} [hm : Mixed P]
    (hB : mixX ol.toArray [] qs n l2 = true) (k1 : ((selT m ol).map fun p => p.2) = qs.filterMap (ol[·]?)) (k2 : ((selT m ol).map fun p => p.1) = qs.map (fun i => qs0.contains i)) (e1 : selT m ol = ql)
    (h : WMR ρ P w ol (fun a' => anyXR ρ P ol.toArray qs0 (fun a w => Q .normal (mk D a) w) n l2 a' { w with drawn := w.drawn + 1 }) ql l) : CD P D (.region id ol.toArray true) Q l w := by
  subst e1
  unfold CD
  unfold WMR at h
  exact wp_mixR hρ qs0 qs n l2 (selT m ol) hm.out hB (by simpa using k1) k2 (wpMR_mk (fun a ha => anyXR_mk (fun a w h => h) _ _ _ _ ha) _ _ h)
theorem XTR_nilK {ρ : World → World → Prop} {ol : List Oper} {qs : List Nat} {K : Act → World → Prop} {listed : Array Bool} (hr : Region.ready .any ol.toArray listed = []) (h : K (act l) w) : XTR ρ P ol qs K 0 listed l w := by unfold XTR; exact ⟨hr, h⟩
/-- A range over a function with two variables. -/
theorem c_rangeS {α : Type} {p1 p2 : Tmp} {g : Operand} {assign body : Code} {gf : Nat} {lb : Array Value} {v1 v2 : α → Value} {Kp : World → World → Prop} {S Sp : List α → Prop} {N : Nat}
    (hg : ev l g = .func (.func gf) #[] lb) (eg : ∀ args w, (callFunc gf args).run P w = .ok (.enter gf args) w) (hseq : SeqStopsK Fence.wide 2 P gf lb (fun x => #[v1 x, v2 x]) Kp S Sp N w)
    (hKt : ∀ {A B C : World}, Kp A B → Kp B C → Kp A C) (hKb : ∀ (A : World) (i : Nat) (o o' : Obj), w.heap.size ≤ i → A.heap[i]? = some o → o.isCells = false → o.isWalk = false → Kp A (A.putObj i o'))
    (I : List α → World → Prop) (Ix : Code → List α → World → Prop) (J : St → List α → α → St → World → Prop) (hI : OwnFrom w.heap.size I) (hIx : ∀ c, OwnFrom w.heap.size (Ix c)) (hJ : ∀ l', OwnFrom w.heap.size fun (p : List α × α) A => J l p.1 p.2 l' A) (h0 : I [] w)
    (hassign : ∀ (i : Nat) (pre : List α) (x : α) (A : World), I pre A → pre.length < N → CR P i assign (Exit.then (fun a' A' => ∃ l', a' = act l' ∧ J l pre x l' A' ∧ KeepsOthers A A' ∧ Kp A A') fun _ _ _ => False) (upd (upd l p1 (v1 x)) p2 (v2 x)) A)
    (hbody : ∀ (i : Nat) (pre : List α) (x : α) (l' : St) (A : World), J l pre x l' A → CR P i body (ownPostK Kp I Ix (pre ++ [x]) A) l' A)
    (hdone : ∀ (D : Nat) (xs : List α) (A : World), w.heap.size ≤ D → S xs → I xs A → A.heap[D]? = some (.deferred (some [])) → Q .normal (mk D (act l)) A)
    (hstop : ∀ (D : Nat) (c : Code) (pre : List α) (A : World), w.heap.size ≤ D → Sp pre → Ix c pre A → A.heap[D]? = some (.deferred (some [])) → CD P D c Q l A) :
    C P (.rangeFunc g #[p1, p2] assign body) Q l w := by
  refine c_rangeB (encs := fun x => #[v1 x, v2 x]) hg eg hseq hKt hKb (fun _ => rfl) I Ix (fun pre x a A => ∃ l', a = act l' ∧ J l pre x l' A) hI hIx ?_ h0 ?_ ?_ hdone hstop
  · rintro a s A B row ⟨l', rfl, h⟩ hg' hr
    exact ⟨l', rfl, hJ l' s A B row h hg' hr⟩
  · intro i pre x A h1 h2
    have := hassign i pre x A h1 h2
    unfold CR at this
    have e : (({ tmps := (#[p1, p2].zip ((fun x => #[v1 x, v2 x]) x)).foldl (fun t (p, v) => t.setIfInBounds p v) (act l).tmps, defers := [] }) : Act) = act (upd (upd l p1 (v1 x)) p2 (v2 x)) := by
      rw [← put_act, ← put_act]
      simp [Act.put, act]
    rw [e]
    refine wpIn_mono this ?_
    intro e a w hh
    cases e <;> first | exact hh.elim | skip
    obtain ⟨l', rfl, h3, h4⟩ := hh
    exact ⟨⟨l', rfl, h3⟩, h4⟩
  · rintro i pre x a A ⟨l', rfl, h⟩
    exact hbody i pre x l' A h
/-- A cut behind a piece of code, said by its slots. -/
theorem c_cutG {n : Nat} (I : List (Nat × Value) → World → Prop) (h : ∀ J : St → World → Prop, (∀ l' w' ps, I ps w' → agree l' ps → l'.n = n → J l' w') → C P x (Exit.then (fun a' w' => ∃ l', a' = act l' ∧ J l' w') Q) l w) (k : ∀ u ps w', I ps w' → C P y Q ⟨n, u, ps⟩ w') : C P (.seq x y) Q l w := by
  refine c_cut (fun l' w' => ∃ u ps, act l' = act ⟨n, u, ps⟩ ∧ I ps w') (h _ fun l' w' ps hi ha hn => ⟨_, ps, by rw [act_agree l' ps ha, hn], hi⟩) ?_
  rintro l' w' ⟨u, ps, e, hi⟩
  have := k u ps w' hi
  unfold C at this ⊢
  rw [e]; exact this
theorem n_cutG {J : St → World → Prop} (h : J l w) : Exit.then (fun a' w' => ∃ l', a' = act l' ∧ J l' w') Q .normal (act l) w := ⟨l, rfl, h⟩
/-- Two results behind a loop: a struct in a cell, and a slice in a cell. -/
theorem d_retcc {fn : Func} {t1 t2 T1 T2 T1' T2' b1 b2 n1 y1 : Nat} {c1 : List Value} {z1 u : Value} {d2 : TypeDesc} {R : Ending → World → Prop} (hk : w.heap[D]? = some (.deferred (some []))) (hr : fn.results = #[.cell t1 T1, .cell t2 T2]) (h1 : Agg P T1) (hs1 : Sz P T1 z1 n1 y1) (h2 : Und P T2 d2) (hd : aggD d2 = false)
    (ht1 : nth l t1 = .pointer (some ⟨b1, 0, none⟩)) (ht2 : nth l t2 = .pointer (some ⟨b2, 0, none⟩)) (hb1 : Bx w b1 c1 T1') (hn1 : c1.length = n1) (hb2 : Bx w b2 [u] T2') (h : R (.returned (.tuple #[.agg c1.toArray, u])) (w.putObj D (.deferred none))) :
    bodyPostM Fence.wide 3 P fn R .ret (mk D (act l)) w := by
  have hb1' : Bx (w.putObj D (.deferred none)) b1 c1 T1' := hb1.notCells (grownBy_putObj' _ _ _) (fun r e => by cases e; exact ⟨_, hk, rfl⟩)
  have hb2' : Bx (w.putObj D (.deferred none)) b2 [u] T2' := hb2.notCells (grownBy_putObj' _ _ _) (fun r e => by cases e; exact ⟨_, hk, rfl⟩)
  refine ⟨by simp, .inl ⟨_, _, rfl, run_takeDeferred hk, .tuple #[.agg c1.toArray, u], ?_, h⟩⟩
  have g1 := run_loadCells_list (P := P) (w.putObj D (.deferred none)) ⟨b1, 0, none⟩ c1 (by have := hb1'.cells; unfold Cells at this; exact this)
  rw [hn1] at g1
  obtain ⟨d1, e1, a1⟩ := h1.out
  have f1 : Und P T1 d1 := ⟨e1⟩
  have k1 : (mk D (act l)).tmps[t1]?.getD undef = .pointer (some ⟨b1, 0, none⟩) := by rw [← ht1]; exact nth_eq ..
  have k2 : (mk D (act l)).tmps[t2]?.getD undef = .pointer (some ⟨b2, 0, none⟩) := by rw [← ht2]; exact nth_eq ..
  have k3 : (w.putObj D (.deferred none)).cell? ⟨b2, 0, none⟩ = some u := (hb2'.cell 0).trans rfl
  simp [results, hr, k1, k2, asAddr, loadVar, f1.isAgg, a1, h2.isAgg, hd, hs1.run, g1, Sem.run_bind, Result.andThen]
  rw [k3]
theorem keeps_gr {w' : World} {b : Nat} {cs : List Value} {T : TypeId} (hg : w.grownBy w' (some b)) (h : Bx w b cs T) : KeepsOthers w w' := keeps_of_grown h hg
theorem n_regD {K : Act → World → Prop} {a : Act} (h : K a w) : (fun (e : Exit) (a : Act) (w : World) => e = Exit.normal ∧ K a w) .normal a w := ⟨rfl, h⟩
theorem WT_nilK {ol : List Oper} {K : Act → World → Prop} (h : K (act l) w) : WT P ol K [] l w := by unfold WT; exact h
theorem hk_ex {o : Obj} {w' : World} (h : w.heap[D]? = some o) (e : Ex w w') : w'.heap[D]? = some o := ((Ex.below e).block D (Array.getElem?_eq_some_iff.1 h).1).trans h
theorem hk_gr {o : Obj} {w' : World} {b : Nat} (h : w.heap[D]? = some o) (hg : w.grownBy w' (some b)) (hne : D ≠ b) : w'.heap[D]? = some o := (hg.block D (Array.getElem?_eq_some_iff.1 h).1 (by intro e; cases e; exact hne rfl)).trans h
end
end Go.Pv
