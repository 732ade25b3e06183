/-
  What this text proves: a region that draws its order, in which operations write into slices of the call's own while others, which only look, are still to come. Over any program.
-/
import Derived.Test.YtlphfobpheefkaaY
set_option linter.unusedVariables false
set_option linter.unusedSimpArgs false

namespace Go.Pv
open Go.RowKit
/-- What the operations that only look must find as it was. -/
structure Keeps (ρ : World → World → Prop) : Prop where
  refl : ∀ w, ρ w w
  trans : ∀ {a b c}, ρ a b → ρ b c → ρ a c
  drew : ∀ w : World, ρ w { w with drawn := w.drawn + 1 }
section mixr
variable {P : Program} {ops : Array Oper} {ρ : World → World → Prop}
def qER (w : World) (v : Value) : Result Next → Prop
  | .ok (.value u) w' => w' = w ∧ u = v
  | .ok .skip w' => w' = w ∧ v = undef
  | _ => False
def YER (ρ : World → World → Prop) (P : Program) (ops : Array Oper) (w0 : World) (o : Oper) (v : Value) (a : Act) : Prop :=
  (Region.wanted o (yielded ops a.tmps) = true ∧ ∀ w, ρ w0 w → qER w v ((execOp a.eval o).run P w)) ∨ (Region.wanted o (yielded ops a.tmps) = false ∧ v = undef)
theorem YER.of_same {w0 : World} {o : Oper} {v : Value} {a a' : Act} (hy : YER ρ P ops w0 o v a) (he : execOp a'.eval o = execOp a.eval o)
    (hw : Region.wanted o (yielded ops a'.tmps) = Region.wanted o (yielded ops a.tmps)) : YER ρ P ops w0 o v a' := by
  unfold YER at *
  rw [he, hw]; exact hy
def QTR (ρ : World → World → Prop) (s : Bool) (w : World) (K : Act → World → Prop) : Exit → Act → World → Prop
  | .normal, a, w' => K a w' ∧ (s = false → ρ w w')
  | _, _, _ => False
def anyXR (ρ : World → World → Prop) (P : Program) (ops : Array Oper) (qs : List Nat) (Q : Act → World → Prop) : Nat → Array Bool → Act → World → Prop
  | 0, listed, a, w => Region.ready .any ops listed = [] ∧ Q a w
  | n + 1, listed, a, w => (Region.ready .any ops listed = [] → Q a w) ∧
    ∀ i ∈ Region.ready .any ops listed, wpOp P ops (QTR ρ (sinkT ops qs i) w (anyXR ρ P ops qs Q n (listed.setIfInBounds i true))) i (QTR ρ (sinkT ops qs i) w (anyXR ρ P ops qs Q n (listed.setIfInBounds i true)) .normal) a w
theorem any_of_XR {qs : List Nat} {Q : Act → World → Prop} : ∀ (n : Nat) (listed : Array Bool) (a : Act) (w : World), anyXR ρ P ops qs Q n listed a w → wpAny P .any ops (QN Q) n listed a w
  | 0, _, _, _, h => h
  | n + 1, listed, a, w, h => ⟨h.1, fun i hi => wpOp_to (fun a' w' hk => any_of_XR n _ a' w' hk.1) (fun e a w he hq => by cases e <;> first | exact absurd rfl he | exact hq.elim) (h.2 i hi)⟩
theorem QTR_no {s : Bool} {w : World} {K : Act → World → Prop} : ∀ e a w', e ≠ .normal → ¬ QTR ρ s w K e a w' := by
  intro e a w' he h
  cases e <;> first | exact absurd rfl he | exact h
theorem YER.step (hρ : Keeps ρ) {σ : World → World → Prop} {w0 w : World} {i : Nat} {o : Oper} {v : Value} {a : Act} (hi : ops[i]? = some o) (hy : YER σ P ops w0 o v a) (hw : σ w0 w) {s : Bool} {K : Act → World → Prop} (h : K (a.put o.dst v) w) :
    wpOp P ops (QTR ρ s w K) i (QTR ρ s w K .normal) a w := by
  have key : QTR ρ s w K .normal (a.put o.dst v) w := ⟨h, fun _ => hρ.refl w⟩
  unfold wpOp
  simp only [hi]
  rcases hy with ⟨hw1, hv⟩ | ⟨hw1, rfl⟩
  · simp only [hw1, if_true]
    refine .inl ?_
    have h3 := hv w hw
    unfold Oper.wp
    generalize (execOp a.eval o).run P w = r at *
    cases r with
    | ok n w' =>
      cases n <;> simp only [qER] at h3 <;> simp only [Oper.upon]
      case value u => obtain ⟨rfl, rfl⟩ := h3; exact key
      case skip => obtain ⟨rfl, rfl⟩ := h3; exact key
    | halt x w' => simp only [qER] at h3
  · simp only [hw1, Bool.false_eq_true, if_false]
    exact key
theorem wpOpER_put {w0 : World} {j : Nat} {oi oj : Oper} {v : Value} (hj : ops[j]? = some oj) (hap : oi.apart ops oj = true)
    (hsi : ∀ cs b, oi.op ≠ .select cs b) (hsj : ∀ cs b, oj.op ≠ .select cs b) {Q : Exit → Act → World → Prop}
    (hQ : ∀ e a w, e ≠ .normal → ¬ Q e a w) {K : Act → World → Prop} {a : Act} {w : World}
    (hy : YER ρ P ops w0 oi v a) (h : wpOp P ops Q j K (a.put oi.dst v) w) :
    wpOp P ops Q j (fun a' w' => YER ρ P ops w0 oi v a' ∧ K (a'.put oi.dst v) w') a w := by
  obtain ⟨h1, h2, h3⟩ := Oper.apart_spec hap
  have keep : ∀ (a : Act), YER ρ P ops w0 oi v a → ∀ u, YER ρ P ops w0 oi v (a.put oj.dst u) := fun a hy u =>
    hy.of_same (execOp_put oi hsi a oj.dst u h3) (wanted_put oi a oj.dst u h3)
  have keepD : ∀ d, YER ρ P ops w0 oi v { a with defers := d :: a.defers } := fun d => hy.of_same rfl rfl
  unfold wpOp at *
  simp only [hj] at *
  rw [wanted_put oj a oi.dst v h1] at h
  split
  · rename_i hw
    simp only [hw, if_true] at h
    rcases h with h | ⟨_, a₀, w₀, h2⟩
    case inr => exact absurd h2 (hQ _ _ _ (by simp))
    refine .inl ?_
    unfold Oper.wp at *
    rw [execOp_put oj hsj a oi.dst v h1] at h
    generalize (execOp a.eval oj).run P w = r at *
    cases r with
    | ok n w' =>
      cases n <;> simp only [Oper.upon] at h ⊢
      case value u => exact ⟨keep a hy u, by rw [← Act.put_comm a v u h2]; exact h⟩
      case skip => exact ⟨keep a hy _, by rw [← Act.put_comm a v undef h2]; exact h⟩
      case defer d =>
        refine ⟨keep _ (keepD d) _, ?_⟩
        rw [← Act.put_comm _ v undef h2, ← Act.put_defers]
        exact h
      case enter f args =>
        refine Calls.mono h fun e w'' he => ?_
        cases e with
        | returned u => exact ⟨keep a hy u, by rw [← Act.put_comm a v u h2]; exact he⟩
        | panicked c => exact absurd he (hQ _ _ _ (by simp))
        | outgrown => exact he
      case row row args => exact Rows.mono h fun u w'' he => ⟨keep a hy u, by rw [← Act.put_comm a v u h2]; exact he⟩
    | halt x w' =>
      cases x <;> simp only [Oper.upon] at h ⊢
      case panic u => exact absurd h (hQ _ _ _ (by simp))
  · rename_i hw
    simp only [hw] at h
    exact ⟨keep a hy _, by rw [← Act.put_comm a v undef h2]; exact h⟩
/-- An operation that only looks and that may come now may be taken first. -/
theorem XR_first (hρ : Keeps ρ) {qs : List Nat} {Q : Act → World → Prop} {i : Nat} {oi : Oper} {v : Value} {w0 : World} (hi : ops[i]? = some oi) (hq : i ∈ qs) (hsel : ∀ (j : Nat) (o : Oper) cs b, ops[j]? = some o → o.op ≠ .select cs b) :
    ∀ (n : Nat) (listed : Array Bool) (a : Act) (w : World), Clo ops listed →
      (∀ j oj, ops[j]? = some oj → j ≠ i → listed.getD j true = false → (∀ e ∈ oj.after, Region.binds .any e = true → e.on ≠ i) → oi.apart ops oj = true) →
      i ∈ Region.ready .any ops listed → YER ρ P ops w0 oi v a → ρ w0 w →
      anyXR ρ P ops qs Q n (listed.setIfInBounds i true) (a.put oi.dst v) w → anyXR ρ P ops qs Q (n + 1) listed a w := by
  intro n
  induction n with
  | zero =>
    intro listed a w hcl _ hr hy hw H
    refine ⟨fun h => (by rw [h] at hr; cases hr), fun j hj => ?_⟩
    by_cases hji : j = i
    · subst hji; exact hy.step hρ hi hw H
    · have := ready_mono hj hji
      rw [H.1] at this
      cases this
  | succ n ih =>
    intro listed a w hcl hfree hr hy hw H
    refine ⟨fun h => (by rw [h] at hr; cases hr), fun j hj => ?_⟩
    by_cases hji : j = i
    · subst hji; exact hy.step hρ hi hw H
    · have h1 := H.2 j (ready_mono hj hji)
      obtain ⟨hjun, oj, hoj, hall⟩ := mem_ready.1 hj
      have hun : listed.getD i false = false := getD_in' (mem_ready.1 hr).1
      have hsink : sinkT ops qs j = false := by
        cases e : sinkT ops qs j
        · rfl
        · unfold sinkT at e
          rw [List.all_eq_true] at e
          have h5 := e i hq
          rw [List.contains_iff_mem] at h5
          have := anc_listed hcl _ j oj hoj hall i h5
          rw [hun] at this; cases this
      have hnot : ∀ e ∈ oj.after, Region.binds .any e = true → e.on ≠ i := fun e he hb heq => by
        have h1 := hall e he hb
        rw [heq, hun] at h1; cases h1
      have h2 := wpOpER_put hoj (hfree j oj hoj hji hjun hnot) (fun cs b => hsel i oi cs b hi) (fun cs b => hsel j oj cs b hoj) QTR_no hy h1
      have hfree' : ∀ k ok, ops[k]? = some ok → k ≠ i → (listed.setIfInBounds j true).getD k true = false →
          (∀ e ∈ ok.after, Region.binds .any e = true → e.on ≠ i) → oi.apart ops ok = true := fun k ok hk hki hun hno => by
        refine hfree k ok hk hki ?_ hno
        by_cases hjk : j = k
        · subst hjk; exact hjun
        · rw [getD_set_ne true hjk] at hun; exact hun
      refine wpOp_to (fun a' w' h3 => ?_) (fun e a w he hq => absurd hq (QTR_no e a w he)) h2
      obtain ⟨hy', h4⟩ := h3
      have h4' : anyXR ρ P ops qs Q n ((listed.setIfInBounds i true).setIfInBounds j true) (a'.put oi.dst v) w' ∧ (sinkT ops qs j = false → ρ w w') := h4
      refine ⟨ih (listed.setIfInBounds j true) a' w' (hcl.set hj) hfree' (ready_mono hr (Ne.symm hji)) hy' (hρ.trans hw (h4'.2 hsink)) ?_, h4'.2⟩
      rw [Array.setIfInBounds_comm _ _ hji]
      exact h4'.1
/-- An operation that does not even look and that may come now may be taken first. -/
theorem XR_firstP (hρ : Keeps ρ) {qs : List Nat} {Q : Act → World → Prop} {i : Nat} {oi : Oper} {v : Value} {w0 : World} (hi : ops[i]? = some oi) (hsel : ∀ (j : Nat) (o : Oper) cs b, ops[j]? = some o → o.op ≠ .select cs b) :
    ∀ (n : Nat) (listed : Array Bool) (a : Act) (w : World), Clo ops listed →
      (∀ j oj, ops[j]? = some oj → j ≠ i → listed.getD j true = false → (∀ e ∈ oj.after, Region.binds .any e = true → e.on ≠ i) → oi.apart ops oj = true) →
      i ∈ Region.ready .any ops listed → YER (fun _ _ => True) P ops w0 oi v a →
      anyXR ρ P ops qs Q n (listed.setIfInBounds i true) (a.put oi.dst v) w → anyXR ρ P ops qs Q (n + 1) listed a w := by
  intro n
  induction n with
  | zero =>
    intro listed a w hcl _ hr hy H
    refine ⟨fun h => (by rw [h] at hr; cases hr), fun j hj => ?_⟩
    by_cases hji : j = i
    · subst hji; exact hy.step hρ hi trivial H
    · have := ready_mono hj hji
      rw [H.1] at this
      cases this
  | succ n ih =>
    intro listed a w hcl hfree hr hy H
    refine ⟨fun h => (by rw [h] at hr; cases hr), fun j hj => ?_⟩
    by_cases hji : j = i
    · subst hji; exact hy.step hρ hi trivial H
    · have h1 := H.2 j (ready_mono hj hji)
      obtain ⟨hjun, oj, hoj, hall⟩ := mem_ready.1 hj
      have hun : listed.getD i false = false := getD_in' (mem_ready.1 hr).1
      have hnot : ∀ e ∈ oj.after, Region.binds .any e = true → e.on ≠ i := fun e he hb heq => by
        have h1 := hall e he hb
        rw [heq, hun] at h1; cases h1
      have h2 := wpOpER_put hoj (hfree j oj hoj hji hjun hnot) (fun cs b => hsel i oi cs b hi) (fun cs b => hsel j oj cs b hoj) QTR_no hy h1
      have hfree' : ∀ k ok, ops[k]? = some ok → k ≠ i → (listed.setIfInBounds j true).getD k true = false →
          (∀ e ∈ ok.after, Region.binds .any e = true → e.on ≠ i) → oi.apart ops ok = true := fun k ok hk hki hun hno => by
        refine hfree k ok hk hki ?_ hno
        by_cases hjk : j = k
        · subst hjk; exact hjun
        · rw [getD_set_ne true hjk] at hun; exact hun
      refine wpOp_to (fun a' w' h3 => ?_) (fun e a w he hq => absurd hq (QTR_no e a w he)) h2
      obtain ⟨hy', h4⟩ := h3
      have h4' : anyXR ρ P ops qs Q n ((listed.setIfInBounds i true).setIfInBounds j true) (a'.put oi.dst v) w' ∧ (sinkT ops qs j = false → ρ w w') := h4
      refine ⟨ih (listed.setIfInBounds j true) a' w' (hcl.set hj) hfree' (ready_mono hr (Ne.symm hji)) hy' ?_, h4'.2⟩
      rw [Array.setIfInBounds_comm _ _ hji]
      exact h4'.1
/-- The operations that only look, in the text's order. -/
def wpMR (ρ : World → World → Prop) (P : Program) (ops : Array Oper) (w0 : World) (R : Act → Prop) : List (Bool × Oper) → Act → Prop
  | [], a => R a
  | (b, o) :: rest, a => if Region.wanted o (yielded ops a.tmps) then ∃ v, (∀ w, (b = true → ρ w0 w) → qER w v ((execOp a.eval o).run P w)) ∧ wpMR ρ P ops w0 R rest (a.put o.dst v) else wpMR ρ P ops w0 R rest (a.put o.dst undef)
theorem XR_lex (hρ : Keeps ρ) {qs0 : List Nat} {Q : Act → World → Prop} {w0 w : World} (hsel : Region.noSelect ops = true) (n : Nat) (hw : ρ w0 w) :
    ∀ (qs : List Nat) (ql : List (Bool × Oper)) (listed listed' : Array Bool) (a : Act), (ql.map fun p => p.2) = qs.filterMap (ops[·]?) → (ql.map fun p => p.1) = qs.map (fun i => qs0.contains i) → Clo ops listed → lexQ ops qs listed = some listed' →
      wpMR ρ P ops w0 (fun a' => anyXR ρ P ops qs0 Q n listed' a' w) ql a → anyXR ρ P ops qs0 Q (qs.length + n) listed a w
  | [], [], listed, listed', a, hq, _, hcl, hx, h => by
    simp only [lexQ, Option.some.injEq] at hx
    subst hx
    simp only [List.length_nil, Nat.zero_add]
    exact h
  | [], p :: ql, listed, listed', a, hq, _, hcl, hx, h => by simp at hq
  | i :: qs, [], listed, listed', a, hq, hf, hcl, hx, h => by simp at hf
  | i :: qs, (b, o') :: ql, listed, listed', a, hq, hf, hcl, hx, h => by
    simp only [lexQ] at hx
    split at hx
    case isFalse => cases hx
    rename_i hb
    simp only [Bool.and_eq_true, List.contains_iff_mem] at hb
    obtain ⟨_, o, ho, _⟩ := mem_ready.1 hb.1
    simp only [List.filterMap_cons, ho, List.map_cons, List.cons.injEq] at hq
    simp only [List.map_cons, List.cons.injEq] at hf
    obtain ⟨rfl, hq⟩ := hq
    obtain ⟨hfb, hf⟩ := hf
    have : ∃ v, YER (fun x y => b = true → ρ x y) P ops w0 o' v a ∧ wpMR ρ P ops w0 (fun a' => anyXR ρ P ops qs0 Q n listed' a' w) ql (a.put o'.dst v) := by
      unfold wpMR at h
      split at h
      · rename_i hwd; obtain ⟨v, h3, h4⟩ := h; exact ⟨v, .inl ⟨hwd, h3⟩, h4⟩
      · rename_i hwd; exact ⟨undef, .inr ⟨by simpa using hwd, rfl⟩, h⟩
    obtain ⟨v, hy, h'⟩ := this
    have e : (i :: qs).length + n = (qs.length + n) + 1 := by simp; omega
    rw [e]
    have rest := XR_lex hρ hsel n hw qs ql _ listed' _ hq hf (hcl.set hb.1) hx h'
    cases b with
    | true =>
      have hin : i ∈ qs0 := by simpa using hfb.symm
      have hy2 : YER ρ P ops w0 o' v a := by
        rcases hy with ⟨h1, h2⟩ | h1
        · exact .inl ⟨h1, fun w hw => h2 w fun _ => hw⟩
        · exact .inr h1
      exact XR_first hρ ho hin (Region.noSelect_spec hsel) _ listed a w hcl (Region.free_spec ho hb.2) hb.1 hy2 hw rest
    | false =>
      have hy2 : YER (fun _ _ => True) P ops w0 o' v a := by
        rcases hy with ⟨h1, h2⟩ | h1
        · exact .inl ⟨h1, fun w hw => h2 w fun h => by cases h⟩
        · exact .inr h1
      exact XR_firstP hρ ho (Region.noSelect_spec hsel) _ listed a w hcl (Region.free_spec ho hb.2) hb.1 hy2 rest
theorem wp_mixR {ri : Option Nat} (hρ : Keeps ρ) {id : Nat} {Q : Exit → Act → World → Prop} {a : Act} {w : World} (qs0 qs : List Nat) (n : Nat) (l2 : Array Bool) (ql : List (Bool × Oper)) (hm : P.follows .mixedOrders = true) (hB : mixX ops [] qs n l2 = true)
    (hq : (ql.map fun p => p.2) = qs.filterMap (ops[·]?)) (hf : (ql.map fun p => p.1) = qs.map (fun i => qs0.contains i))
    (h : wpMR ρ P ops w (fun a' => anyXR ρ P ops qs0 (Q .normal) n l2 a' { w with drawn := w.drawn + 1 }) ql a) : (Code.region id ops true).wpIn (Fr ri) 1 P Q a w := by
  simp only [mixX, Bool.and_eq_true, decide_eq_true_eq, lexQ] at hB
  obtain ⟨⟨⟨hsel, hnd⟩, hsz⟩, hB⟩ := hB
  split at hB
  case h_2 => cases hB
  rename_i l hx2
  have hl : l = l2 := by simpa using hB
  subst hl
  have hcl : Clo ops (Array.replicate ops.size false) := fun j oj _ hl => by
    rw [Array.getD_eq_getD_getElem?] at hl
    by_cases hj : j < ops.size
    · simp [hj] at hl
    · simp [hj] at hl
  have hx := XR_lex hρ (P := P) (Q := Q .normal) (qs0 := qs0) (w0 := w) (w := { w with drawn := w.drawn + 1 }) hsel n (hρ.drew w) qs ql _ l a hq hf hcl hx2 h
  rw [show qs.length + n = ops.size by simpa using hsz] at hx
  refine wpIn_region_any hm (any_in (nodef_get hnd) ?_ (fun a w h => h) _ _ _ _ (any_of_XR _ _ _ _ hx))
  intro e a w hq
  cases e <;> first | exact hq | exact hq.elim
end mixr
section
variable {P : Program} {w : World} {ol : List Oper} {rest : List (Bool × Oper)} {l : St} {ρ : World → World → Prop} {R : Act → Prop}
def WMR (ρ : World → World → Prop) (P : Program) (w0 : World) (ol : List Oper) (R : Act → Prop) (rest : List (Bool × Oper)) (l : St) : Prop := wpMR ρ P ol.toArray w0 R rest (act l)
def XTR (ρ : World → World → Prop) (P : Program) (ol : List Oper) (qs : List Nat) (Q : Act → World → Prop) (n : Nat) (listed : Array Bool) (l : St) (w : World) : Prop := anyXR ρ P ol.toArray qs Q n listed (act l) w
theorem c_mixR {ri : Option Nat} (hρ : Keeps ρ) {id : Nat} {Q : Exit → Act → World → Prop} (qs0 qs : List Nat) (n : Nat) (l2 : Array Bool) (m : List (Option Bool)) {ql : List (Bool × Oper)} [hm : Mixed P]
    (hB : mixX ol.toArray [] qs n l2 = true) (k1 : ((selT m ol).map fun p => p.2) = qs.filterMap (ol[·]?)) (k2 : ((selT m ol).map fun p => p.1) = qs.map (fun i => qs0.contains i)) (e1 : selT m ol = ql)
    (h : WMR ρ P w ol (fun a' => anyXR ρ P ol.toArray qs0 (Q .normal) n l2 a' { w with drawn := w.drawn + 1 }) ql l) : C ri P (.region id ol.toArray true) Q l w := by
  subst e1
  unfold C
  unfold WMR at h
  exact wp_mixR hρ qs0 qs n l2 (selT m ol) hm.out hB (by simpa using k1) k2 h
theorem WMR_nil {qs : List Nat} {n : Nat} {l2 : Array Bool} {Q : Act → World → Prop} (h : ∀ w', Ex w w' → w'.heap.size = w.heap.size → XTR ρ P ol qs Q n l2 l w') : WMR ρ P w ol (fun a' => anyXR ρ P ol.toArray qs Q n l2 a' { w with drawn := w.drawn + 1 }) [] l := by
  unfold WMR
  exact h _ (Ex.refl w).drew rfl
theorem WMR_op {b : Bool} {o : Oper} {d : Nat} {v : Value} (hg : o.guard = none) (hd : o.dst = some d) (hr : ∀ w', (b = true → ρ w w') → Runs P o l w' v) (k : WMR ρ P w ol R rest (upd l d v)) : WMR ρ P w ol R ((b, o) :: rest) l := by
  unfold WMR wpMR
  rw [if_pos (by simp [Region.wanted, hg])]
  refine ⟨v, fun w' hw' => ?_, ?_⟩
  · rw [eval_act]
    have := hr w' hw'
    unfold Runs at this
    rw [this]
    exact ⟨rfl, rfl⟩
  · rw [hd, put_act]
    unfold WMR at k; exact k
theorem XTR_nil {qs : List Nat} {Q : Exit → Act → World → Prop} {listed : Array Bool} (hr : Region.ready .any ol.toArray listed = []) (h : Q .normal (act l) w) : XTR ρ P ol qs (Q .normal) 0 listed l w := ⟨hr, h⟩
theorem XTR_one {qs : List Nat} {Q : Act → World → Prop} {n t : Nat} {s : Bool} {o : Oper} {listed listed' : Array Bool} (hr : Region.ready .any ol.toArray listed = [t]) (ho : ol[t]? = some o) (hs : sinkT ol.toArray qs t = s) (hl : listed.setIfInBounds t true = listed')
    (h : W P ol (QTR ρ s w (anyXR ρ P ol.toArray qs Q n listed')) [o] l w) : XTR ρ P ol qs Q (n + 1) listed l w := by
  subst hs; subst hl
  unfold W at h
  refine ⟨fun h0 => (by rw [hr] at h0; cases h0), fun i hi => ?_⟩
  rw [hr] at hi
  have : i = t := by simpa using hi
  subst this
  unfold wpOp
  simp only [List.getElem?_toArray, ho]
  exact h
theorem XTR_two {qs : List Nat} {Q : Act → World → Prop} {n t t' : Nat} {s s' : Bool} {o o' : Oper} {listed l1 l1' : Array Bool} (hr : Region.ready .any ol.toArray listed = [t, t']) (ho : ol[t]? = some o) (ho' : ol[t']? = some o') (hs : sinkT ol.toArray qs t = s) (hs' : sinkT ol.toArray qs t' = s')
    (hl : listed.setIfInBounds t true = l1) (hl' : listed.setIfInBounds t' true = l1')
    (h : W P ol (QTR ρ s w (anyXR ρ P ol.toArray qs Q n l1)) [o] l w) (h' : W P ol (QTR ρ s' w (anyXR ρ P ol.toArray qs Q n l1')) [o'] l w) : XTR ρ P ol qs Q (n + 1) listed l w := by
  subst hs; subst hl; subst hs'; subst hl'
  unfold W at h h'
  refine ⟨fun h0 => (by rw [hr] at h0; cases h0), fun i hi => ?_⟩
  rw [hr] at hi
  have : i = t ∨ i = t' := by simpa using hi
  rcases this with rfl | rfl
  · unfold wpOp
    simp only [List.getElem?_toArray, ho]
    exact h
  · unfold wpOp
    simp only [List.getElem?_toArray, ho']
    exact h'
theorem xR_sink {qs : List Nat} {Q : Act → World → Prop} {n : Nat} {listed : Array Bool} {w0 : World} (h : XTR ρ P ol qs Q n listed l w) : QTR ρ true w0 (anyXR ρ P ol.toArray qs Q n listed) .normal (act l) w := ⟨h, fun e => by cases e⟩
theorem xR_keep {qs : List Nat} {Q : Act → World → Prop} {n : Nat} {listed : Array Bool} {w0 : World} (hx : ρ w0 w) (h : XTR ρ P ol qs Q n listed l w) : QTR ρ false w0 (anyXR ρ P ol.toArray qs Q n listed) .normal (act l) w := ⟨h, fun _ => hx⟩
end
/-- All that lies below stays, but in these blocks. -/
structure KeepB (gs : List (Option Nat)) (w w' : World) : Prop where
  size : w.heap.size ≤ w'.heap.size
  block : ∀ k, k < w.heap.size → some k ∉ gs → w'.heap[k]? = w.heap[k]?
theorem keepB (gs : List (Option Nat)) : Keeps (KeepB gs) where
  refl := fun w => ⟨Nat.le_refl _, fun _ _ _ => rfl⟩
  trans := fun h k => ⟨Nat.le_trans h.size k.size, fun i hi hg => (k.block i (Nat.lt_of_lt_of_le hi h.size) hg).trans (h.block i hi hg)⟩
  drew := fun w => ⟨Nat.le_refl _, fun _ _ _ => rfl⟩
theorem KeepB.of_grown {gs : List (Option Nat)} {w w' : World} {row : Option Nat} (hg : w.grownBy w' row) (hr : row ∈ gs) : KeepB gs w w' :=
  ⟨hg.size, fun k hk hn => hg.block k hk fun e => hn (e ▸ hr)⟩
theorem KeepB.of_ex {gs : List (Option Nat)} {w w' : World} (he : Ex w w') : KeepB gs w w' := by
  unfold Ex at he; exact ⟨he.size, fun k hk _ => he.block k hk⟩
theorem KeepB.cell {gs : List (Option Nat)} {w w' : World} (h : KeepB gs w w') {a : Addr} {v : Value} (hc : w.cell? a = some v) (hn : some a.block ∉ gs) : w'.cell? a = some v :=
  (World.cell?_of_block (h.block a.block (World.block_lt_of_cell? w a hc) hn)).trans hc
theorem Bx.keepB {gs : List (Option Nat)} {w w' : World} {b : Nat} {c : List Value} {T : TypeId} (h : Bx w b c T) (hn : some b ∉ gs) (hk : KeepB gs w w') : Bx w' b c T := by
  have hl := h.lt
  unfold Bx at h ⊢
  rw [hk.block b hl hn]; exact h
attribute [irreducible] XTR WMR
end Go.Pv
