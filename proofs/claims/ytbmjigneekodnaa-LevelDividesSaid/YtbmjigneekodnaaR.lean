/-
  What this text proves: laws by which a range over a function is walked: its iterator's call of yield, the loop itself, its rounds and its end. Over any program.
-/
import Derived.RangeFuncNested
import Derived.RangeFuncBound
import Derived.RangeFuncCalls
import Derived.RangeFuncLeaves
import Derived.RangeFuncFrom
import Derived.TacticsIn
import Derived.Test.YtbmjigneekodnaaPv
namespace Go.Pv
open Go.RowKit
set_option linter.unusedVariables false
set_option linter.unusedSimpArgs false

theorem act_ini {fn : Func} {n : Nat} {vs : List Value} {ps : List (Nat × Value)} (hn : fn.ntmps = n) (hle : vs.length ≤ n) (hl : ini vs 0 = ps) :
    ({ tmps := vs.toArray ++ Array.replicate (fn.ntmps - vs.toArray.size) undef, defers := [] } : Act) = act ⟨n, fun _ => undef, ps⟩ := by
  have : vs.toArray ++ Array.replicate (fn.ntmps - vs.toArray.size) undef = (act ⟨n, fun _ => undef, ps⟩).tmps := by
    apply Array.ext_getElem?
    intro t
    rw [tmps_act, ← hl]
    simp only [look_ini vs 0 t (Nat.zero_le _), hn]
    rw [Array.getElem?_append]
    by_cases h1 : t < vs.length
    · have : t < n := by omega
      simp [h1, this]
    · by_cases h2 : t < n
      · have : t - vs.length < n - vs.length := by omega
        simp [h1, h2, this]
      · have : ¬ t - vs.length < n - vs.length := by omega
        simp [h1, h2, this]
  rw [this]; rfl

section
variable {P : Program} {Q : Exit → Act → World → Prop} {l : St} {w : World} {c : Code}
theorem calls_of_c {f : FuncId} {fn : Func} {n : Nat} {vs : List Value} {ps : List (Nat × Value)} {R : Ending → World → Prop} (hf : P.funcs[f]? = some fn) (hb : fn.body = some c) (hn : fn.ntmps = n) (hle : vs.length ≤ n) (hl : ini vs 0 = ps)
    (h : C P c (bodyPost P fn R) ⟨n, fun _ => undef, ps⟩ w) : Calls P f vs.toArray w R := by
  refine calls_of_wp hf hb ?_
  rw [act_ini hn hle hl]
  unfold C at h
  exact h
/-- The contract of a function that holds a range over a function. -/
theorem retm_of_c {f : FuncId} {fn : Func} {n : Nat} {vs : List Value} {ps : List (Nat × Value)} {φ : Value → World → Prop} (hf : P.funcs[f]? = some fn) (hb : fn.body = some c) (hn : fn.ntmps = n) (hle : vs.length ≤ n) (hl : ini vs 0 = ps)
    (h : C P c (bodyPostM Fence.wide 3 P fn fun e w' => ∃ v, e = .returned v ∧ φ v w' ∧ Ex w w') ⟨n, fun _ => undef, ps⟩ w) : Ret P f vs w φ := by
  unfold Ret
  refine (callsIn_wide (n := 3)).1 (callsIn_of_wp_marks hf hb trivial ?_ rfl)
  rw [act_ini hn hle hl]
  unfold C at h
  exact wpIn_wide.2 h
theorem q_ret1 {fn : Func} {t : Nat} {v : Value} {R : Ending → World → Prop} (hr : fn.results = #[.tmp t]) (hv : nth l t = v) (h : R (.returned v) w) : bodyPostM Fence.wide 3 P fn R .ret (act l) w :=
  ⟨_, results_tmp hr _ _ _, by rw [Array.getD_eq_getD_getElem?, nth_eq, hv]; exact h⟩
theorem q_ret2 {fn : Func} {t u : Nat} {v v' : Value} {R : Ending → World → Prop} (hr : fn.results = #[.tmp t, .tmp u]) (hv : nth l t = v) (hv' : nth l u = v') (h : R (.returned (.tuple #[v, v'])) w) : bodyPostM Fence.wide 3 P fn R .ret (act l) w :=
  ⟨_, results_tmp2 hr _ _ _, by rw [Array.getD_eq_getD_getElem?, Array.getD_eq_getD_getElem?, nth_eq, nth_eq, hv, hv']; exact h⟩
/-- Behind a range over a function: a mark lies among the deferred calls. -/
def mk (D : Nat) (a : Act) : Act := { a with defers := a.defers ++ [{ target := .collected D, args := #[] }] }
/-- A region's operations under other marks, and in a round. -/
theorem list_in {F : Fence} (hF : F = Fence.wide ∨ ∃ i, F = Fence.wide.inRound i) {n : Nat} {ops : Array Oper} {Q' : Exit → Act → World → Prop} (ds : List Deferred)
    (hq : ∀ e a w, Q e a w → Q' e { a with defers := a.defers ++ ds } w) (hout : ∀ a w, ¬ Q .outgrown a w) :
    ∀ (rest : List Oper) (a : Act) (w : World), (∀ o ∈ rest, ∀ c, o.op ≠ .defer c) → wpList P ops Q rest a w → wpListIn F n P ops Q' rest { a with defers := a.defers ++ ds } w := by
  have hfn : ∀ f, F.fn f := by rcases hF with rfl | ⟨i, rfl⟩ <;> exact fun f => trivial
  have hdep : F.depth = none := by rcases hF with rfl | ⟨i, rfl⟩ <;> rfl
  have hcall : ∀ {n f args w R}, Calls P f args w R → CallsIn F n P f args w R := by
    intro n f args w R h
    rcases hF with rfl | ⟨i, rfl⟩
    · exact callsIn_wide.2 h
    · exact CallsIn.inRound i (callsIn_wide.2 h)
  have hrows : ∀ {n row args w} {R : Value → World → Prop}, Rows P row args w R → RowsIn F n P row args w R := by
    intro n row args w R h c cs _
    obtain ⟨v, w', h1, h2⟩ := h c cs
    refine ⟨v, w', h1, ?_⟩
    rcases hF with rfl | ⟨i, rfl⟩
    · exact stepsIn_wide.2 h2
    · exact stepsIn_wide.2 h2
  have hput : ∀ (a : Act) (d : Option Nat) (v : Value), ({ a with defers := a.defers ++ ds } : Act).put d v = { a.put d v with defers := (a.put d v).defers ++ ds } := by
    intro a d v; cases d <;> rfl
  have hput2 : ∀ (a : Act) (x : Deferred) (d : Option Nat) (v : Value), ({ a with defers := x :: (a.defers ++ ds) } : Act).put d v = { ({ a with defers := x :: a.defers } : Act).put d v with defers := (({ a with defers := x :: a.defers } : Act).put d v).defers ++ ds } := by
    intro a x d v; cases d <;> rfl
  intro rest
  induction rest with
  | nil => intro a w _ h; exact hq _ _ _ h
  | cons o rest ih =>
    intro a w hnd h
    have ih' := fun a w => ih a w (fun o ho => hnd o (List.mem_cons_of_mem _ ho))
    have hsem : ∀ ρ, o.semAt F.round ρ = execOp ρ o := fun ρ => Oper.semAt_eq _ _ _ (hnd o (List.mem_cons_self ..))
    simp only [wpList] at h
    simp only [wpListIn]
    by_cases hw : Region.wanted o (yielded ops a.tmps) = true
    · rw [if_pos hw] at h
      rw [if_pos hw]
      rcases h with h | ⟨_, a', w', h⟩
      · refine ⟨fun f _ => hfn f, ?_⟩
        have hsem' := hsem (Act.eval { a with defers := a.defers ++ ds })
        rw [hsem']
        have hev : (Act.eval { a with defers := a.defers ++ ds }) = a.eval := by
          funext x; cases x <;> rfl
        rw [hev]
        unfold Oper.wp at h
        unfold Oper.upon at h
        unfold Oper.uponIn
        split at h
        · next v w' hr => simp only [hr]; rw [hput]; exact ih' _ _ h
        · next w' hr => simp only [hr]; rw [hput]; exact ih' _ _ h
        · next d w' hr => simp only [hr]; rw [hput2]; exact ih' _ _ h
        · next f args w' hr =>
          simp only [hr]
          refine ⟨(fun h => by rw [hdep] at h; cases h), hcall (Calls.mono h ?_)⟩
          rintro e w'' he
          cases e with
          | returned v => (show wpListIn F n P ops Q' rest (Act.put _ _ _) _); rw [hput]; exact ih' _ _ he
          | panicked ch => exact hq _ _ _ he
          | outgrown => obtain ⟨a1, w1, h1⟩ := he; exact absurd h1 (hout _ _)
        · next row args w' hr =>
          simp only [hr]
          refine ⟨(fun h => by rw [hdep] at h; cases h), hrows (Rows.mono h ?_)⟩
          rintro v w'' he
          rw [hput]
          exact ih' _ _ he
        · next v w' hr => simp only [hr]; exact hq _ _ _ h
        · exact h.elim
      · exact absurd h (hout _ _)
    · rw [if_neg hw] at h
      rw [if_neg hw]
      rw [hput]
      exact ⟨fun f _ => hfn f, ih' _ _ h⟩
def nodef (ol : List Oper) : Bool := ol.all fun o => match o.op with
  | .defer _ => false
  | _ => true
theorem nodef_ok {ol : List Oper} (h : nodef ol = true) : ∀ o ∈ ol, ∀ c, o.op ≠ .defer c := by
  intro o ho c e
  have := List.all_eq_true.1 h o ho
  rw [e] at this
  cases this
/-- A region behind a range over a function. -/
theorem c_regionD {id D : Nat} {ol : List Oper} (hnd : nodef ol = true) {K : Act → World → Prop}
    (h : W P ol (fun e a w => e = .normal ∧ K (mk D a) w) ol l w) (hq : ∀ a w, K a w → Q .normal a w) : (Code.region id ol.toArray false).wp P Q (mk D (act l)) w := by
  refine wpIn_wide.1 (wpIn_region_lit (n := 3) ?_)
  unfold W at h
  exact list_in (.inl rfl) _ (fun e a w ⟨he, hk⟩ => by subst he; exact hq _ _ hk) (fun a w h => by cases h.1) ol _ w (nodef_ok hnd) h
/-- A region in a round. -/
theorem c_regionR {id i n : Nat} {ol : List Oper} (hnd : nodef ol = true)
    (h : W P ol (fun e a w => e = .normal ∧ Q .normal a w) ol l w) : (Code.region id ol.toArray false).wpIn (Fence.wide.inRound i) n P Q (act l) w := by
  refine wpIn_region_lit ?_
  unfold W at h
  have := list_in (Q' := Q) (.inr ⟨i, rfl⟩) (n := n) [] (fun e a w ⟨he, hk⟩ => by subst he; simpa using hk) (fun a w h => by cases h.1) ol _ w (nodef_ok hnd) h
  simpa using this
theorem n_reg {K : Act → World → Prop} (h : K (act l) w) : (fun (e : Exit) (a : Act) (w : World) => e = Exit.normal ∧ K a w) .normal (act l) w := ⟨rfl, h⟩

/-- The operations of a region under the wide fence, one by one. -/
def WI (P : Program) (ol : List Oper) (Q : Exit → Act → World → Prop) (rest : List Oper) (l : St) (w : World) : Prop := wpListIn Fence.wide 2 P ol.toArray Q rest (act l) w
theorem c_regionI {id : Nat} {ol : List Oper} (h : WI P ol Q ol l w) : C P (.region id ol.toArray false) Q l w := by
  unfold C
  exact wpIn_wide.1 (wpIn_region_lit (n := 2) h)
/-- What a block that holds no cells does not touch. -/
theorem Bx.notCells {w w' : World} {b : Nat} {cs : List Value} {T : TypeId} {row : Option Nat} (h : Bx w b cs T) (hg : w.grownBy w' row) (hr : ∀ r, row = some r → ∃ o : Obj, w.heap[r]? = some o ∧ o.isCells = false) : Bx w' b cs T := by
  refine h.grown hg fun e => ?_
  obtain ⟨o, h1, h2⟩ := hr b e.symm
  unfold Bx at h
  rw [h] at h1
  cases h1
  cases h2
theorem Own.notCells {E : TypeId} {base : Nat} {w w' : World} {v : Value} {xs : List Int} {row : Option Nat} (h : Own E base w v xs) (hg : w.grownBy w' row) (hr : ∀ r, row = some r → ∃ o : Obj, w.heap[r]? = some o ∧ o.isCells = false) : Own E base w' v xs := by
  unfold Own at *
  refine ⟨h.1, h.2.kept hg ?_⟩
  rcases h.2.2 with ⟨rfl, _⟩ | ⟨g, cap, cur, rfl, hb, hh, _⟩
  · exact .inl rfl
  · refine .inr fun e => ?_
    obtain ⟨o, h1, h2⟩ := hr g e.symm
    rw [hh] at h1
    cases h1
    cases h2
theorem OwnP.notCells {E : TypeId} {base : Nat} {w w' : World} {v : Value} {xs : List (Int × Int)} {row : Option Nat} (h : OwnP E base w v xs) (hg : w.grownBy w' row) (hr : ∀ r, row = some r → ∃ o : Obj, w.heap[r]? = some o ∧ o.isCells = false) : OwnP E base w' v xs := by
  unfold OwnP at *
  refine ⟨h.1, h.2.kept hg ?_⟩
  rcases h.2.2 with ⟨rfl, _⟩ | ⟨g, cap, cur, rfl, hb, hh, _⟩
  · exact .inl rfl
  · refine .inr fun e => ?_
    obtain ⟨o, h1, h2⟩ := hr g e.symm
    rw [hh] at h1
    cases h1
    cases h2
theorem keeps_of_grown {w w' : World} {b : Nat} {cs : List Value} {T : TypeId} (h : Bx w b cs T) (hg : w.grownBy w' (some b)) : KeepsOthers w w' := by
  refine ⟨hg.size, fun k o hk ho => ?_⟩
  rw [hg.block k (Array.getElem?_eq_some_iff.1 hk).1 ?_, hk]
  intro e
  cases e
  unfold Bx at h
  rw [h] at hk
  cases hk
  cases ho
theorem keeps_of_ex {w w' : World} (h : Ex w w') : KeepsOthers w w' := ⟨h.size, fun k o hk _ => (h.grownBy.block k (Array.getElem?_eq_some_iff.1 hk).1 (by simp)).trans hk⟩
end
end Go.Pv
