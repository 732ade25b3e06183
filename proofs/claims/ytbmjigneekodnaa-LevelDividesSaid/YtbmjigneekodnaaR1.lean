/-
  What this text proves: a range over a function with one variable whose value may be a struct or an array. Over any program.
-/
import Derived.Test.YtbmjigneekodnaaVq
set_option linter.unusedVariables false
set_option linter.unusedSimpArgs false
namespace Go.Pv
open Go Go.RowKit
variable {P : Program} {Q : Exit → Act → World → Prop} {l : St} {w : World}
theorem c_rangeS1 {α : Type} {p1 : Tmp} {g : Operand} {assign body : Code} {gf : Nat} {lb : Array Value} {v1 : α → Value} {Kp : World → World → Prop} {S Sp : List α → Prop} {N : Nat}
    (hg : ev l g = .func (.func gf) #[] lb) (eg : ∀ args w, (callFunc gf args).run P w = .ok (.enter gf args) w) (hseq : SeqStopsK Fence.wide 2 P gf lb (fun x => #[v1 x]) Kp S Sp N w)
    (hKt : ∀ {A B C : World}, Kp A B → Kp B C → Kp A C) (hKb : ∀ (A : World) (i : Nat) (o o' : Obj), w.heap.size ≤ i → A.heap[i]? = some o → o.isCells = false → o.isWalk = false → Kp A (A.putObj i o'))
    (I : List α → World → Prop) (Ix : Code → List α → World → Prop) (J : St → List α → α → St → World → Prop) (hI : OwnFrom w.heap.size I) (hIx : ∀ c, OwnFrom w.heap.size (Ix c)) (hJ : ∀ l', OwnFrom w.heap.size fun (p : List α × α) A => J l p.1 p.2 l' A) (h0 : I [] w)
    (hassign : ∀ (i : Nat) (pre : List α) (x : α) (A : World), I pre A → pre.length < N → CR P i assign (Exit.then (fun a' A' => ∃ l', a' = act l' ∧ J l pre x l' A' ∧ KeepsOthers A A' ∧ Kp A A') fun _ _ _ => False) (upd l p1 (v1 x)) A)
    (hbody : ∀ (i : Nat) (pre : List α) (x : α) (l' : St) (A : World), J l pre x l' A → CR P i body (ownPostK Kp I Ix (pre ++ [x]) A) l' A)
    (hdone : ∀ (D : Nat) (xs : List α) (A : World), w.heap.size ≤ D → S xs → I xs A → A.heap[D]? = some (.deferred (some [])) → Q .normal (mk D (act l)) A)
    (hstop : ∀ (D : Nat) (c : Code) (pre : List α) (A : World), w.heap.size ≤ D → Sp pre → Ix c pre A → A.heap[D]? = some (.deferred (some [])) → CD P D c Q l A) :
    C P (.rangeFunc g #[p1] assign body) Q l w := by
  refine c_rangeB (encs := fun x => #[v1 x]) hg eg hseq hKt hKb (fun _ => rfl) I Ix (fun pre x a A => ∃ l', a = act l' ∧ J l pre x l' A) hI hIx ?_ h0 ?_ ?_ hdone hstop
  · rintro a s A B row ⟨l', rfl, h⟩ hg' hr
    exact ⟨l', rfl, hJ l' s A B row h hg' hr⟩
  · intro i pre x A h1 h2
    have := hassign i pre x A h1 h2
    unfold CR at this
    have e : (({ tmps := (#[p1].zip ((fun x => #[v1 x]) x)).foldl (fun t (p, v) => t.setIfInBounds p v) (act l).tmps, defers := [] }) : Act) = act (upd l p1 (v1 x)) := by
      rw [← put_act]
      simp [Act.put, act]
    rw [e]
    refine wpIn_mono this ?_
    intro e a w hh
    cases e <;> first | exact hh.elim | skip
    obtain ⟨l', rfl, h3, h4⟩ := hh
    exact ⟨⟨l', rfl, h3⟩, h4⟩
  · rintro i pre x a A ⟨l', rfl, h⟩
    exact hbody i pre x l' A h
theorem cr_cond_true {i : Nat} {x y : Code} {o : Operand} (hc : ev l o = .bool true) (ht : CR P i x Q l w) : CR P i (.cond o x y) Q l w := wpIn_cond_true (by rw [eval_act, hc]) ht
theorem cr_cond_false {i : Nat} {x y : Code} {o : Operand} (hc : ev l o = .bool false) (hf : CR P i y Q l w) : CR P i (.cond o x y) Q l w := wpIn_cond_false (by rw [eval_act, hc]) hf
theorem d_retcA {fn : Func} {t1 T1 T1' b1 n1 y1 D : Nat} {c1 : List Value} {z1 : Value} {R : Ending → World → Prop} (hk : w.heap[D]? = some (.deferred (some []))) (hr : fn.results = #[.cell t1 T1]) (h1 : Agg P T1) (hs1 : Sz P T1 z1 n1 y1)
    (ht1 : nth l t1 = .pointer (some ⟨b1, 0, none⟩)) (hb1 : Bx w b1 c1 T1') (hn1 : c1.length = n1) (h : R (.returned (.agg c1.toArray)) (w.putObj D (.deferred none))) :
    bodyPostM Fence.wide 3 P fn R .ret (mk D (act l)) w := by
  have hb1' : Bx (w.putObj D (.deferred none)) b1 c1 T1' := hb1.notCells (grownBy_putObj' _ _ _) (fun r e => by cases e; exact ⟨_, hk, rfl⟩)
  refine ⟨by simp, .inl ⟨_, _, rfl, run_takeDeferred hk, .agg c1.toArray, ?_, h⟩⟩
  have g1 := run_loadCells_list (P := P) (w.putObj D (.deferred none)) ⟨b1, 0, none⟩ c1 (by have := hb1'.cells; unfold Cells at this; exact this)
  rw [hn1] at g1
  obtain ⟨d1, e1, a1⟩ := h1.out
  have f1 : Und P T1 d1 := ⟨e1⟩
  have k1 : (mk D (act l)).tmps[t1]?.getD undef = .pointer (some ⟨b1, 0, none⟩) := by rw [← ht1]; exact nth_eq ..
  simp [results, hr, k1, asAddr, loadVar, f1.isAgg, a1, hs1.run, g1]
end Go.Pv
