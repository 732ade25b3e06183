/-
  What this text proves: a region that draws its order and in which several operations may come next: quiet operations first, then the others in each order that is open. Over any program.
-/
import Derived.Test.YtlphfobpheefkaaR2
set_option linter.unusedVariables false
set_option linter.unusedSimpArgs false

namespace Go.Pv
open Go.RowKit
section mixx
variable {P : Program} {ops : Array Oper}
theorem X_lexX {qs0 qb : List Nat} {Q : Act → World → Prop} {w0 : World} (hsel : Region.noSelect ops = true) (n : Nat) :
    ∀ (qs : List Nat) (ql : List Oper) (listed listed' : Array Bool) (a : Act) (w : World), (∀ i ∈ qs, i ∈ qs0) → (∀ k ∈ qb, listed.getD k false = true) → ql = qs.filterMap (ops[·]?) → Clo ops listed → lexQ ops qs listed = some listed' → Ex w0 w →
      wpM P ops w0 (fun a' => ∀ w', Ex w0 w' → anyX P ops qs0 qb Q n listed' a' w') ql a → anyX P ops qs0 qb Q (qs.length + n) listed a w
  | [], ql, listed, listed', a, w, _, _, hq, hcl, hx, hw, h => by
    subst hq
    simp only [lexQ, Option.some.injEq] at hx
    subst hx
    simp only [List.length_nil, Nat.zero_add]
    exact h w hw
  | i :: qs, ql, listed, listed', a, w, hin, hqb, hq, hcl, hx, hw, h => by
    simp only [lexQ] at hx
    split at hx
    case isFalse => cases hx
    rename_i hb
    simp only [Bool.and_eq_true, List.contains_iff_mem] at hb
    obtain ⟨_, o, ho, _⟩ := mem_ready.1 hb.1
    simp only [List.filterMap_cons, ho] at hq
    subst hq
    have : ∃ v, YE P ops w0 o v a ∧ wpM P ops w0 (fun a' => ∀ w', Ex w0 w' → anyX P ops qs0 qb Q n listed' a' w') (qs.filterMap (ops[·]?)) (a.put o.dst v) := by
      unfold wpM at h
      split at h
      · rename_i hwd; obtain ⟨v, h3, h4⟩ := h; exact ⟨v, .inl ⟨hwd, h3⟩, h4⟩
      · rename_i hwd; exact ⟨undef, .inr ⟨by simpa using hwd, rfl⟩, h⟩
    obtain ⟨v, hy, h'⟩ := this
    have e : (i :: qs).length + n = (qs.length + n) + 1 := by simp; omega
    rw [e]
    exact X_first ho (hin i (by simp)) (Region.noSelect_spec hsel) _ listed a w hcl hqb (Region.free_spec ho hb.2) hb.1 hy hw fun w' hw' =>
      X_lexX hsel n qs _ _ listed' _ w' (fun k hk => hin k (by simp [hk])) (fun k hk => getD_set_true (hqb k hk)) rfl (hcl.set hb.1) hx (hw.trans hw') h'
/-- The quiet operations of a region can be taken first, and n others are left, with these taken. -/
def mixX (ops : Array Oper) (qb qs : List Nat) (n : Nat) (l2 : Array Bool) : Bool :=
  Region.noSelect ops && nodef ops.toList && decide (qb.length + (qs.length + n) = ops.size) && match lexQ ops qb (Array.replicate ops.size false) with
    | some l1 => match lexQ ops qs l1 with
      | some l => l == l2
      | none => false
    | none => false
theorem wp_mixX {ρ : Option Nat} {id : Nat} {Q : Exit → Act → World → Prop} {a : Act} {w : World} (qb qs : List Nat) (n : Nat) (l2 : Array Bool) (bl ql : List Oper) (hm : P.follows .mixedOrders = true) (hB : mixX ops qb qs n l2 = true)
    (hb : bl = qb.filterMap (ops[·]?)) (hq : ql = qs.filterMap (ops[·]?))
    (h : wpB P ops (fun a' => wpM P ops w (fun a' => ∀ w', Ex w w' → anyX P ops qs qb (Q .normal) n l2 a' w') ql a') bl a) : (Code.region id ops true).wpIn (Fr ρ) 1 P Q a w := by
  simp only [mixX, Bool.and_eq_true, decide_eq_true_eq] at hB
  obtain ⟨⟨⟨hsel, hnd⟩, hsz⟩, hB⟩ := hB
  split at hB
  case h_2 => cases hB
  rename_i l1 hx1
  split at hB
  case h_2 => cases hB
  rename_i l hx2
  have hl : l = l2 := by simpa using hB
  subst hl
  have hcl : Clo ops (Array.replicate ops.size false) := fun j oj _ hl => by
    rw [Array.getD_eq_getD_getElem?] at hl
    by_cases hj : j < ops.size
    · simp [hj] at hl
    · simp [hj] at hl
  have hx := X_lexB (P := P) (Q := Q .normal) (qs0 := qs) (qb := qb) (w := { w with drawn := w.drawn + 1 }) hsel (qs.length + n) _ l1
    (fun a' ha => X_lexX (P := P) (Q := Q .normal) (w0 := w) hsel n qs ql l1 l a' { w with drawn := w.drawn + 1 } (fun _ h => h) (lexQ_listed qb _ _ hx1).2 hq (lexQ_clo qb _ _ hx1 hcl) hx2 (Ex.refl w).drew ha)
    qb bl _ a (fun _ h => h) hb hx1 h
  rw [hsz] at hx
  refine wpIn_region_any hm (any_in (nodef_get hnd) ?_ (fun a w h => h) _ _ _ _ (any_of_X _ _ _ _ hx))
  intro e a w hq
  cases e <;> first | exact hq | exact hq.elim
end mixx
section
variable {P : Program} {w : World} {ol : List Oper} {l : St}
/-- What is left of a region: n operations, in each order that is open. -/
def XT (P : Program) (ol : List Oper) (qs qb : List Nat) (Q : Act → World → Prop) (n : Nat) (listed : Array Bool) (l : St) (w : World) : Prop := anyX P ol.toArray qs qb Q n listed (act l) w
theorem c_mixX {ρ : Option Nat} {id : Nat} {Q : Exit → Act → World → Prop} (qb qs : List Nat) (n : Nat) (l2 : Array Bool) (mb m : List Bool) {bl ql : List Oper} [hm : Mixed P]
    (hB : mixX ol.toArray qb qs n l2 = true) (k0 : sel mb ol = qb.filterMap (ol[·]?)) (k1 : sel m ol = qs.filterMap (ol[·]?))
    (e0 : sel mb ol = bl) (e1 : sel m ol = ql) (h : WB P ol (fun a' => wpM P ol.toArray w (fun a' => ∀ w', Ex w w' → anyX P ol.toArray qs qb (Q .normal) n l2 a' w') ql a') bl l) : C ρ P (.region id ol.toArray true) Q l w := by
  subst e0; subst e1
  unfold C
  unfold WB at h
  exact wp_mixX qb qs n l2 (sel mb ol) (sel m ol) hm.out hB (by simpa using k0) (by simpa using k1) h
theorem XB_nil {qs qb : List Nat} {n : Nat} {l2 : Array Bool} {Q : Act → World → Prop} {ql : List Oper} (h : WM P w ol (fun a' => ∀ w', Ex w w' → anyX P ol.toArray qs qb Q n l2 a' w') ql l) : WB P ol (fun a' => wpM P ol.toArray w (fun a' => ∀ w', Ex w w' → anyX P ol.toArray qs qb Q n l2 a' w') ql a') [] l := by
  unfold WB; unfold WM at h; exact h
theorem XM_nil {qs qb : List Nat} {n : Nat} {l2 : Array Bool} {Q : Act → World → Prop} (h : ∀ w', Ex w w' → XT P ol qs qb Q n l2 l w') : WM P w ol (fun a' => ∀ w', Ex w w' → anyX P ol.toArray qs qb Q n l2 a' w') [] l := by
  unfold WM; exact h
theorem XT_nil {qs qb : List Nat} {Q : Exit → Act → World → Prop} {listed : Array Bool} (hr : Region.ready .any ol.toArray listed = []) (h : Q .normal (act l) w) : XT P ol qs qb (Q .normal) 0 listed l w := ⟨hr, h⟩
theorem XT_one {qs qb : List Nat} {Q : Act → World → Prop} {n t : Nat} {s : Bool} {o : Oper} {listed listed' : Array Bool} (hr : Region.ready .any ol.toArray listed = [t]) (ho : ol[t]? = some o) (hs : flg ol.toArray qs qb t = s) (hl : listed.setIfInBounds t true = listed')
    (h : W P ol (QT s w (anyX P ol.toArray qs qb Q n listed')) [o] l w) : XT P ol qs qb Q (n + 1) listed l w := by
  subst hs; subst hl
  unfold W at h
  refine ⟨fun h0 => (by rw [hr] at h0; cases h0), fun i hi => ?_⟩
  rw [hr] at hi
  have : i = t := by simpa using hi
  subst this
  unfold wpOp
  simp only [List.getElem?_toArray, ho]
  exact h
/-- An operation that looks at no memory, that waits for all quiet ones, and that may come now: it may be taken first. -/
theorem X_firstF {P : Program} {ops : Array Oper} {qs qb : List Nat} {Q : Act → World → Prop} {i : Nat} {oi : Oper} {v : Value} (hi : ops[i]? = some oi) (hfl : flg ops qs qb i = true) (hsel : ∀ (j : Nat) (o : Oper) cs b, ops[j]? = some o → o.op ≠ .select cs b) :
    ∀ (n : Nat) (listed : Array Bool) (a : Act) (w : World),
      (∀ j oj, ops[j]? = some oj → j ≠ i → listed.getD j true = false → (∀ e ∈ oj.after, Region.binds .any e = true → e.on ≠ i) → oi.apart ops oj = true) →
      i ∈ Region.ready .any ops listed → Yields P ops oi v a →
      anyX P ops qs qb Q n (listed.setIfInBounds i true) (a.put oi.dst v) w → anyX P ops qs qb Q (n + 1) listed a w := by
  intro n
  induction n with
  | zero =>
    intro listed a w _ hr hy H
    refine ⟨fun h => (by rw [h] at hr; cases hr), fun j hj => ?_⟩
    by_cases hji : j = i
    · subst hji; rw [hfl]; exact hy.wpOp hi H
    · have := ready_mono hj hji
      rw [H.1] at this
      cases this
  | succ n ih =>
    intro listed a w hfree hr hy H
    refine ⟨fun h => (by rw [h] at hr; cases hr), fun j hj => ?_⟩
    by_cases hji : j = i
    · subst hji; rw [hfl]; exact hy.wpOp hi H
    · have h1 := H.2 j (ready_mono hj hji)
      obtain ⟨hjun, oj, hoj, hall⟩ := mem_ready.1 hj
      have hun : listed.getD i false = false := getD_in' (mem_ready.1 hr).1
      have hnot : ∀ e ∈ oj.after, Region.binds .any e = true → e.on ≠ i := fun e he hb heq => by
        have h1 := hall e he hb
        rw [heq, hun] at h1; cases h1
      have h2 := wpOp_put hoj (hfree j oj hoj hji hjun hnot) (fun cs b => hsel i oi cs b hi) (fun cs b => hsel j oj cs b hoj) (fun c a w hq => absurd hq (QT_no _ _ _ (by simp))) hy h1
      have hfree' : ∀ k ok, ops[k]? = some ok → k ≠ i → (listed.setIfInBounds j true).getD k true = false →
          (∀ e ∈ ok.after, Region.binds .any e = true → e.on ≠ i) → oi.apart ops ok = true := fun k ok hk hki hun hno => by
        refine hfree k ok hk hki ?_ hno
        by_cases hjk : j = k
        · subst hjk; exact hjun
        · rw [getD_set_ne true hjk] at hun; exact hun
      refine wpOp_to (fun a' w' h3 => ?_) (fun e a w he hq => absurd hq (QT_no e a w he)) h2
      obtain ⟨hy', h4⟩ := h3
      refine h4.map fun w'' h5 => ih (listed.setIfInBounds j true) a' w'' hfree' (ready_mono hr (Ne.symm hji)) hy' ?_
      rw [Array.setIfInBounds_comm _ _ hji]
      exact h5
/-- May operation t be taken first now? -/
def pureX (ops : Array Oper) (qs qb : List Nat) (listed : Array Bool) (t : Nat) : Bool := Region.noSelect ops && flg ops qs qb t && (Region.ready .any ops listed).contains t && Region.free .any ops listed t
theorem XT_pure {qs qb : List Nat} {Q : Act → World → Prop} {n t d : Nat} {o : Oper} {v : Value} {listed listed' : Array Bool} (hp : pureX ol.toArray qs qb listed t = true) (ho : ol[t]? = some o) (hg : o.guard = none) (hd : o.dst = some d) (hl : listed.setIfInBounds t true = listed')
    (hr : ∀ w', Runs P o l w' v) (k : XT P ol qs qb Q n listed' (upd l d v) w) : XT P ol qs qb Q (n + 1) listed l w := by
  subst hl
  simp only [pureX, Bool.and_eq_true, List.contains_iff_mem] at hp
  obtain ⟨⟨⟨h1, h2⟩, h3⟩, h4⟩ := hp
  have ho' : ol.toArray[t]? = some o := by simpa using ho
  unfold XT at k ⊢
  refine X_firstF (v := v) ho' h2 (Region.noSelect_spec h1) n listed (act l) w (Region.free_spec ho' h4) h3 (.inl ⟨by simp [Region.wanted, hg], fun w' => ?_⟩) ?_
  · have := hr w'
    unfold Runs at this
    rw [eval_act]; exact this
  · rw [hd, put_act]; exact k
theorem XT_two {qs qb : List Nat} {Q : Act → World → Prop} {n t t' : Nat} {s s' : Bool} {o o' : Oper} {listed l1 l1' : Array Bool} (hr : Region.ready .any ol.toArray listed = [t, t']) (ho : ol[t]? = some o) (ho' : ol[t']? = some o') (hs : flg ol.toArray qs qb t = s) (hs' : flg ol.toArray qs qb t' = s')
    (hl : listed.setIfInBounds t true = l1) (hl' : listed.setIfInBounds t' true = l1')
    (h : W P ol (QT s w (anyX P ol.toArray qs qb Q n l1)) [o] l w) (h' : W P ol (QT s' w (anyX P ol.toArray qs qb Q n l1')) [o'] l w) : XT P ol qs qb Q (n + 1) listed l w := by
  subst hs; subst hl; subst hs'; subst hl'
  unfold W at h h'
  refine ⟨fun h0 => (by rw [hr] at h0; cases h0), fun i hi => ?_⟩
  rw [hr] at hi
  have : i = t ∨ i = t' := by simpa using hi
  rcases this with rfl | rfl
  · unfold wpOp
    simp only [List.getElem?_toArray, ho]
    exact h
  · unfold wpOp
    simp only [List.getElem?_toArray, ho']
    exact h'
theorem x_sink {qs qb : List Nat} {Q : Act → World → Prop} {n : Nat} {listed : Array Bool} {w0 : World} (h : XT P ol qs qb Q n listed l w) : QT true w0 (anyX P ol.toArray qs qb Q n listed) .normal (act l) w := h
theorem x_keep {qs qb : List Nat} {Q : Act → World → Prop} {n : Nat} {listed : Array Bool} {w0 : World} (hx : Ex w0 w) (h : ∀ w'', Ex w w'' → XT P ol qs qb Q n listed l w'') : QT false w0 (anyX P ol.toArray qs qb Q n listed) .normal (act l) w := ⟨hx, h⟩
end
attribute [irreducible] XT
end Go.Pv
