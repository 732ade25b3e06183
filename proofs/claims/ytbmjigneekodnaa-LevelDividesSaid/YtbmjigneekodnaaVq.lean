/-
  What this text proves: rules for code in a round of a range over a function, and behind such a loop. Over any program.
-/
import Derived.Test.YtbmjigneekodnaaVr
import Derived.Test.YtbmjigneekodnaaZ
set_option linter.unusedVariables false
set_option linter.unusedSimpArgs false
namespace Go.Pv
open Go.RowKit
section
variable {P : Program} {Q : Exit → Act → World → Prop} {l : St} {w : World} {i D : Nat} {x y c : Code}
/-- Code in a round. -/
def CR (P : Program) (i : Nat) (c : Code) (Q : Exit → Act → World → Prop) (l : St) (w : World) : Prop := c.wpIn (Fence.wide.inRound i) 1 P Q (act l) w
theorem cr_seq (h : CR P i x (Exit.then (y.wpIn (Fence.wide.inRound i) 1 P Q) Q) l w) : CR P i (.seq x y) Q l w := wpIn_seq h
theorem cr_skip (h : Q .normal (act l) w) : CR P i .skip Q l w := wpIn_skip h
theorem cr_ret (h : Q .ret (act l) w) : CR P i .ret Q l w := wpIn_ret h
theorem cr_block {id : Nat} (h : CR P i c (Exit.inBlock id Q) l w) : CR P i (.block id c) Q l w := wpIn_block h
theorem cr_region {id : Nat} {ol : List Oper} (hnd : nodef ol = true) (h : W P ol (fun e a w => e = .normal ∧ Q .normal a w) ol l w) : CR P i (.region id ol.toArray false) Q l w := c_regionR hnd h
theorem cr_cond_dec {o : Operand} {p : Prop} {_ : Decidable p} (hc : ev l o = .bool (decide p)) (ht : p → CR P i x Q l w) (hf : ¬ p → CR P i y Q l w) : CR P i (.cond o x y) Q l w := by
  by_cases hp : p
  · exact wpIn_cond_true (by rw [eval_act, hc]; simp [hp]) (ht hp)
  · exact wpIn_cond_false (by rw [eval_act, hc]; simp [hp]) (hf hp)
theorem nr_then {K : Exit → Act → World → Prop} (h : CR P i y K l w) : Exit.then (y.wpIn (Fence.wide.inRound i) 1 P K) Q .normal (act l) w := h
/-- Code behind a range over a function. -/
def CD (P : Program) (D : Nat) (c : Code) (Q : Exit → Act → World → Prop) (l : St) (w : World) : Prop := c.wp P Q (mk D (act l)) w
theorem cd_seq (h : CD P D x (Exit.then (y.wp P Q) Q) l w) : CD P D (.seq x y) Q l w := wp_seq h
theorem cd_skip (h : Q .normal (mk D (act l)) w) : CD P D .skip Q l w := wp_skip h
theorem cd_ret (h : Q .ret (mk D (act l)) w) : CD P D .ret Q l w := wp_ret h
theorem cd_region {id : Nat} {ol : List Oper} (hnd : nodef ol = true) (h : W P ol (fun e a w => e = .normal ∧ Q .normal (mk D a) w) ol l w) : CD P D (.region id ol.toArray false) Q l w := by
  unfold CD
  exact c_regionD hnd (K := fun a w => Q .normal a w) h fun a w h => h
theorem nd_then {K : Exit → Act → World → Prop} (h : CD P D y K l w) : Exit.then (y.wp P K) Q .normal (mk D (act l)) w := h
/-- A cut behind a piece of code, said by its slots. -/
theorem c_cutG {n : Nat} (I : List (Nat × Value) → World → Prop) (h : ∀ J : St → World → Prop, (∀ l' w' ps, I ps w' → agree l' ps → l'.n = n → J l' w') → C P x (Exit.then (fun a' w' => ∃ l', a' = act l' ∧ J l' w') Q) l w) (k : ∀ u ps w', I ps w' → C P y Q ⟨n, u, ps⟩ w') : C P (.seq x y) Q l w := by
  refine c_cut (fun l' w' => ∃ u ps, act l' = act ⟨n, u, ps⟩ ∧ I ps w') (h _ fun l' w' ps hi ha hn => ⟨_, ps, by rw [act_agree l' ps ha, hn], hi⟩) ?_
  rintro l' w' ⟨u, ps, e, hi⟩
  have := k u ps w' hi
  unfold C at this ⊢
  rw [e]; exact this
theorem n_cutG {J : St → World → Prop} (h : J l w) : Exit.then (fun a' w' => ∃ l', a' = act l' ∧ J l' w') Q .normal (act l) w := ⟨l, rfl, h⟩
theorem keeps_gr {w' : World} {b : Nat} {cs : List Value} {T : TypeId} (hg : w.grownBy w' (some b)) (h : Bx w b cs T) : KeepsOthers w w' := keeps_of_grown h hg
theorem n_regD {K : Act → World → Prop} {a : Act} (h : K a w) : (fun (e : Exit) (a : Act) (w : World) => e = Exit.normal ∧ K a w) .normal a w := ⟨rfl, h⟩
theorem hk_ex {o : Obj} {w' : World} (h : w.heap[D]? = some o) (e : Ex w w') : w'.heap[D]? = some o := ((Ex.below e).block D (Array.getElem?_eq_some_iff.1 h).1).trans h
theorem hk_gr {o : Obj} {w' : World} {b : Nat} (h : w.heap[D]? = some o) (hg : w.grownBy w' (some b)) (hne : D ≠ b) : w'.heap[D]? = some o := (hg.block D (Array.getElem?_eq_some_iff.1 h).1 (by intro e; cases e; exact hne rfl)).trans h
end
end Go.Pv
