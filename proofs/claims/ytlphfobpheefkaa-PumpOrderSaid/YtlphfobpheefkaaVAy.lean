/-
  (heavy) (rows) What this text proves: how many of so many ticks are each regulator's own is as the plain function says. Conditions: the values read as lists.
-/
import Derived.Test.YtlphfobpheefkaaVAx
import Derived.Test.YtlphfobpheefkaaSq
set_option linter.unusedVariables false
set_option linter.unusedSimpArgs false
namespace Go.Pv
open Go.RowKit Go.Sort
/-- What a round keeps: all that lay at the entry, and one block. -/
def FrB (w0 : World) (b : Nat) (cs : List Value) (T : TypeId) (X : World) : Prop := Ex w0 X ∧ Bx X b cs T
theorem FrB.ex {w0 w w' : World} {b : Nat} {cs : List Value} {T : TypeId} (e : Ex w w') (h : FrB w0 b cs T w) : FrB w0 b cs T w' := ⟨h.1.trans e, h.2.ex e⟩
theorem FrB.put {w0 A : World} {b i : Nat} {cs : List Value} {T : TypeId} {o o' : Obj} (h : FrB w0 b cs T A) (hi : w0.heap.size ≤ i) (hA : A.heap[i]? = some o) (ho : o.isCells = false) : FrB w0 b cs T (A.putObj i o') :=
  ⟨Ex.of_grown h.1 (grownBy_putObj' _ _ _) (by intro k hk; cases hk; exact hi), h.2.notCells (grownBy_putObj' _ _ _) (fun r e => by cases e; exact ⟨o, hA, ho⟩)⟩
/-- What is left of n ticks, and each regulator's own part. -/
def remS (S : Nat → Nat → Int) (m n : Nat) : Nat → Nat
  | 0 => n
  | k + 1 => remS S m n k - (S (m - 1 - k) (remS S m n k)).toNat
def partS (S : Nat → Nat → Int) (m n i : Nat) : Int := S i (remS S m n (m - 1 - i))
def mixR (f : Nat → Int) (k m : Nat) : List Int := (List.range m).map fun q => if m ≤ q + k then f q else 0
theorem mixR_len (f : Nat → Int) (k m : Nat) : (mixR f k m).length = m := by simp [mixR]
theorem mixR_zero (f : Nat → Int) (m : Nat) : (mixR f 0 m) = List.replicate m 0 := by
  rw [← range_zero]
  unfold mixR
  refine List.map_congr_left fun q hq => ?_
  rw [if_neg (by simp at hq; omega)]
theorem mixR_all (f : Nat → Int) (m : Nat) : mixR f m m = (List.range m).map f := by
  unfold mixR
  refine List.map_congr_left fun q hq => ?_
  rw [if_pos (by simp at hq; omega)]
theorem mixR_set {f : Nat → Int} {k m : Nat} (h : k < m) : ((mixR f k m).map (Value.int .i64)).set (m - 1 - k) (.int .i64 (f (m - 1 - k))) = (mixR f (k + 1) m).map (Value.int .i64) := by
  refine List.ext_getElem? fun i => ?_
  by_cases hi : i < m
  · by_cases e : i = m - 1 - k
    · subst e
      rw [List.getElem?_set_self (by simp [mixR_len]; omega)]
      simp only [mixR, List.map_map, List.getElem?_map, List.getElem?_range hi, Option.map_some, Function.comp]
      rw [if_pos (by omega)]
    · rw [List.getElem?_set_ne (by omega)]
      simp only [mixR, List.map_map, List.getElem?_map, List.getElem?_range hi, Option.map_some, Function.comp]
      by_cases c : m ≤ i + k
      · rw [if_pos c, if_pos (by omega)]
      · rw [if_neg c, if_neg (by omega)]
  · rw [List.getElem?_eq_none (by simp [mixR_len]; omega), List.getElem?_eq_none (by simp [mixR_len]; omega)]
theorem remS_le {S : Nat → Nat → Int} {m n : Nat} : ∀ k, remS S m n k ≤ n
  | 0 => Nat.le_refl _
  | k + 1 => Nat.le_trans (Nat.sub_le _ _) (remS_le k)
/-- What holds before each round of split. -/
def SpI (w0 : World) (S : Nat → Nat → Int) (m n b1 b3 b5 g : Nat) (T1 T3 T5 T : TypeId) (sv : Value) (pre : List (Value × Value)) (A : World) : Prop :=
  pre.length ≤ m ∧ Bx A b3 [.int .i64 (remS S m n pre.length : Int)] T3 ∧ Bx A b5 [.slice (some ⟨g, 0, none⟩) m m] T5 ∧ Bx A g ((mixR (partS S m n) pre.length m).map (Value.int .i64)) T ∧ Bx A b1 [sv] T1 ∧ Ex w0 A
theorem SpI.own {w0 : World} {S : Nat → Nat → Int} {m n b1 b3 b5 g : Nat} {T1 T3 T5 T : TypeId} {sv : Value} {B : Nat} (h : w0.heap.size ≤ B) : OwnFrom B (SpI w0 S m n b1 b3 b5 g T1 T3 T5 T sv) :=
  fun s A A' row hs hg hr => ⟨hs.1, hs.2.1.notCells hg fun r e => (hr r e).2, hs.2.2.1.notCells hg fun r e => (hr r e).2, hs.2.2.2.1.notCells hg fun r e => (hr r e).2, hs.2.2.2.2.1.notCells hg fun r e => (hr r e).2, Ex.of_grown hs.2.2.2.2.2 hg fun k hk => by have := (hr k hk).1; omega⟩
/-- What the iterator says of each element. -/
def BwT (us : List Value) (pre : List (Value × Value)) (x : Value × Value) (_ : World) : Prop := pre.length < us.length ∧ x = (.int .i64 ((us.length : Int) - 1 - (pre.length : Int)), us.getD (us.length - 1 - pre.length) undef)
end Go.Pv
namespace Go.Proofs.Ytlphfobpheefkaa
open Go.Pv Go.RowKit Go.Sort
set_option maxHeartbeats 8000000
set_option maxRecDepth 20000
theorem backward_any (sv : Value) (us : List Value) (w : World) (h : Vals w sv us) : Ret Try.prog 98 [sv] w fun r w' =>
    ∃ b1, r = .func (.func 113) #[] #[.pointer (some ⟨b1, 0, none⟩)] ∧ Bx w' b1 [sv] 57 ∧ w.heap.size ≤ b1 := by
  obtain ⟨a, n, c, rfl⟩ : ∃ a n c, sv = .slice a n c := by unfold Vals Sl at h; obtain ⟨_, a, c, e, _⟩ := h; exact ⟨_, _, _, e⟩
  clear h
  refine ret_of_c Try.func98 rfl Try.ntmps98 (Nat.le_of_ble_eq_true rfl) (by dsimp only [ini, Nat.reduceAdd] <;> exact rfl) ?_
  repeat' (first
      | ((with_reducible apply W_op); exact rfl; exact rfl; exact r_makeFunc rfl rfl)
      | ((first | ((with_reducible apply W_op); exact rfl; exact rfl)); (first | ((with_reducible apply r_assign); ((conv => lhs; whnf) <;> exact rfl))))
      | (with_reducible apply W_nil)
      | ((with_reducible apply W_box); exact rfl; exact rfl; intro bq wq hbq he hnq; have hltq := Bx.lt hbq; have hsz := he.size)
      | (with_reducible apply c_seq)
      | ((with_reducible apply c_region); kernel_rfl)
      | (with_reducible apply n_nq)
      | (with_reducible apply c_ret)
      | (with_reducible apply n_then)
      | ((with_reducible apply p_ret1); exact rfl; exact rfl; ((conv => lhs; whnf) <;> exact rfl); refine ⟨_, rfl, ?_, (by repeat (first | assumption | exact Ex.refl _ | (refine Ex.trans ?_ (by assumption)) | (refine Ex.of_grown ?_ (by assumption) (by intro k hk; cases hk; omega))))⟩))
  all_goals first
    | exact ⟨_, rfl, (by repeat (first | assumption | ((with_reducible apply Bx.grownS); assumption; (first | omega | exact Bx.ne (by assumption) (by omega))) | ((with_reducible apply Bx.below); assumption; omega) | ((with_reducible apply Bx.ex); assumption))), by omega⟩
    | trace_state
theorem backward1_seq (sv : Value) (us : List Value) (b1 : Nat) (w0 w1 : World) (h : Vals w0 sv us) (ho : ∀ q ∈ us, q.oneCell' = true) (hl : us.length ≤ 500) (hF : FrB w0 b1 [sv] 57 w1) :
    SeqP Try.prog 113 #[.pointer (some ⟨b1, 0, none⟩)] (fun x : Value × Value => [x.1, x.2].toArray) (fun X Y => FrB w0 b1 [sv] 57 X → FrB w0 b1 [sv] 57 Y) (BwT us) (fun xs => xs.length = us.length) (fun _ => True) w1 := by
  intro y J Jx w hW hJ hJx hY h0
  have hW2 : Ex w1 w := by unfold Ex; exact hW
  have hF0 := hF.ex hW2
  have hv1 := h.one
  have tkA : True := trivial
  refine callsIn_wide.2 ?_
  show Calls Try.prog _ (List.toArray [.func (.yield y) #[] #[], .pointer (some ⟨b1, 0, none⟩)]) w _
  refine calls_of_c Try.func113 rfl Try.ntmps113 (Nat.le_of_ble_eq_true rfl) (by dsimp only [ini, Nat.reduceAdd] <;> exact rfl) ?_
  -- calls_of_c Try.func113
  have hx0 := hF0.2
  have hew0 := hF0.1
  repeat' (first
      | ((with_reducible apply W_op); exact rfl; exact rfl; exact r_lenVals rfl (Vals.ex (show Ex w0 _ from by first | assumption | exact Ex.trans hew0 (by repeat (first | assumption | exact Ex.refl _ | (refine Ex.trans ?_ (by assumption)) | (refine Ex.of_grown ?_ (by assumption) (by intro k hk; cases hk; omega))))) h))
      | (clear tkB; (have hew1 := hcf.1); (have hszw := he.size); (by_cases hkn : k < us.length; (have hu1 : (us.getD (us.length - 1 - k) undef).oneCell' = true := ho _ (by simp [List.getD]; rw [List.getElem?_eq_getElem (by omega)]; simp))); all_goals (have tkC : True := trivial))
      | (have _ := tkC; (with_reducible apply c_cond_dec); exact rfl; intro _; rotate_left 1; intro _; (all_goals (try (exfalso; (focus (omega; done))))))
      | (have _ := tkC; refine c_regionP (id := 3) [true, true, true, true, true, true, false, false] [false, false, false, false, false, false, true, true] (by dsimp only [sel] <;> exact rfl) (by dsimp only [sel] <;> exact rfl) rfl rfl ?_)
      | (have _ := tkC; refine W_indexVals (i := us.length - 1 - k) (v := sv) (xs := us) rfl (Vals.ex (show Ex w0 _ from Ex.trans hew1 (by repeat (first | assumption | exact Ex.refl _ | (refine Ex.trans ?_ (by assumption)) | (refine Ex.of_grown ?_ (by assumption) (by intro k hk; cases hk; omega))))) h) (Eq.trans (b := Value.int .i64 _) rfl (congrArg _ (by omega))) (by omega) ?_; intro pq hpq)
      | ((with_reducible (show C _ _ _ _ _ _)); clear tkA; refine c_loopG (fun (k : Nat) ps wr => ∃ i : Int, ∃ w : World, ∃ ys : List (Value × Value), ps = [(0, .func (.yield y) #[] #[]), (1, .pointer (some ⟨b1, 0, none⟩)), (3, .int .i64 i)] ∧ i = (us.length : Int) - 1 - k ∧ k ≤ us.length ∧ ys.length = k ∧ J ys w ∧ FrB w0 b1 [sv] 57 w ∧ Bx wr b1 [sv] 57 ∧ Ex w wr) (fun k => us.length - k) 0 _ ⟨_, _, _, rfl, (Int.sub_zero _).symm, Nat.zero_le _, rfl, h0, hF0, hx0, Ex.refl _⟩ ⟨rfl, rfl, rfl, trivial⟩ (by ((conv => lhs; whnf) <;> exact rfl)) (by ((conv => lhs; whnf) <;> exact rfl)) ?_; rintro JJ hJJ k u ps wr ⟨i, w, ys, rfl, rfl, hk, hys, hj0, hcf, hx1, he⟩; have hsz := he.size; have tkB : True := trivial)
      | ((first | ((with_reducible apply W_op); exact rfl; exact rfl)); (first | ((with_reducible apply r_move); ((conv => lhs; whnf) <;> exact rfl)) | ((with_reducible apply r_assign); ((conv => lhs; whnf) <;> exact rfl)) | ((with_reducible apply r_load); exact rfl; exact rfl; (first | assumption | exact (Bx.cell (by repeat (first | assumption | ((with_reducible apply Bx.grownS); assumption; (first | omega | exact Bx.ne (by assumption) (by omega))) | ((with_reducible apply Bx.below); assumption; omega) | ((with_reducible apply Bx.ex); assumption))) _).trans rfl | exact Ex.cell (by assumption) (by assumption))) | ((with_reducible apply r_geq); exact rfl; exact rfl) | ((with_reducible apply r_sub); exact rfl; exact rfl; omega) | ((with_reducible apply r_notb); exact rfl)))
      | (with_reducible apply WP_nil)
      | ((clear tkC; refine WI_yieldN rfl rfl (hY ys (.int .i64 ((us.length : Int) - 1 - (k : Int)), us.getD (us.length - 1 - k) undef) _ (hJ _ _ _ none hj0 (Ex.grownBy (by repeat (first | assumption | exact Ex.refl _ | (refine Ex.trans ?_ (by assumption)) | (refine Ex.of_grown ?_ (by assumption) (by intro k hk; cases hk; omega))))) (by intro r e; cases e)) ⟨by rw [hys]; omega, by rw [hys]⟩) (by rintro e w' (⟨rfl, _⟩ | ⟨rfl, _⟩) <;> exact ⟨_, rfl⟩) ?_); (rintro bb wy (⟨e, hj1, hk1⟩ | ⟨e, hj1⟩) <;> cases e); all_goals (refine WI_rest rfl ?_))
      | ((with_reducible (show Exit.then _ _ _ _ _)); refine n_roundG (k + 1) (hJJ _ _ _ _ ⟨_, _, _, rfl, by omega, by omega, (by rw [List.length_append, hys]; rfl), hj1, hk1 (hcf.ex (by repeat (first | assumption | exact Ex.refl _ | (refine Ex.trans ?_ (by assumption)) | (refine Ex.of_grown ?_ (by assumption) (by intro k hk; cases hk; omega))))), (hk1 (hcf.ex (by repeat (first | assumption | exact Ex.refl _ | (refine Ex.trans ?_ (by assumption)) | (refine Ex.of_grown ?_ (by assumption) (by intro k hk; cases hk; omega)))))).2, Ex.refl _⟩ ⟨rfl, rfl, rfl, trivial⟩ rfl) (by omega))
      | (with_reducible apply W_nil)
      | (with_reducible apply c_seq)
      | ((with_reducible apply c_region); kernel_rfl)
      | (with_reducible apply n_nq)
      | (with_reducible apply c_block)
      | (with_reducible apply c_skip)
      | (with_reducible apply c_ret)
      | (with_reducible apply c_exit)
      | ((with_reducible apply c_cond_true); exact rfl)
      | ((with_reducible apply c_cond_false); exact rfl)
      | (with_reducible apply n_then)
      | (with_reducible apply n_block)
      | (with_reducible apply e_then)
      | (with_reducible apply e_block)
      | (with_reducible apply r_then)
      | (with_reducible apply r_block))
  all_goals first
    | exact p_ret0 rfl rfl ⟨⟨_, rfl⟩, .inr ⟨_, trivial, hj1⟩⟩
    | exact p_end0 rfl rfl ⟨⟨_, rfl⟩, .inl ⟨ys, (by omega), hJ _ _ _ none hj0 (Ex.grownBy (by repeat (first | assumption | exact Ex.refl _ | (refine Ex.trans ?_ (by assumption)) | (refine Ex.of_grown ?_ (by assumption) (by intro k hk; cases hk; omega))))) (by intro r e; cases e)⟩⟩
    | trace_state
theorem split_any (av sv : Value) (us : List Value) (S : Nat → Nat → Int) (N n : Nat) (w : World) (h : Vals w sv us) (ha1 : av.oneCell' = true) (hu : ∀ i, i < us.length → Ints w (us.getD i undef) ((List.range (N + 1)).map (S i))) (hS : ∀ i j, i < us.length → j ≤ N → 0 ≤ S i j ∧ S i j ≤ j) (hn : n ≤ N) (hN : N ≤ 900) (hl : us.length ≤ 500) (ho : ∀ q ∈ us, q.oneCell' = true) :
    Ret Try.prog 84 [.agg #[av, sv], .int .i64 (n : Int)] w fun r w' => ∃ g, r = .slice (some ⟨g, 0, none⟩) us.length us.length ∧ Bx w' g (((List.range us.length).map (partS S us.length n)).map (Value.int .i64)) 3 ∧ w.heap.size ≤ g := by
  have hv1 := h.one
  obtain ⟨m, hm⟩ : ∃ m, us.length = m := ⟨_, rfl⟩
  rw [hm]
  have tk2 : True := trivial
  have tkM : True := trivial
  have tk5 : True := trivial
  refine ret_of_c Try.func84 rfl Try.ntmps84 (Nat.le_of_ble_eq_true rfl) (by dsimp only [ini, Nat.reduceAdd] <;> exact rfl) ?_
  repeat' (first
      | (clear tk2; (with_reducible apply W_box); exact rfl; exact rfl; intro b2 wq hbq he hnq; have hltq := Bx.lt hbq; have hsz := he.size; have hx2 : Bx wq b2 [av, sv] 100 := hbq; have tk3 : True := trivial)
      | (clear tk3; (with_reducible apply W_box); exact rfl; exact rfl; intro b3 wq hbq he hnq; have hltq := Bx.lt hbq; have hsz := he.size; have hx3 : Bx wq b3 [.int .i64 (n : Int)] 3 := hbq)
      | ((with_reducible apply W_op); exact rfl; exact rfl; exact r_lenVals rfl (Vals.ex (show Ex w _ from (by repeat (first | exact Ex.refl _ | assumption | (refine Ex.of_grown ?_ (by assumption) (by intro k hk; cases hk; omega)) | (refine Ex.trans ?_ (by assumption))))) h))
      | (clear tkM; refine W_makeI (m := m) (congrArg (Value.int .i64) (congrArg Nat.cast hm)) (congrArg (Value.int .i64) (congrArg Nat.cast hm)) (by omega) (by decide) ?_; intro g wq hg he hng; have hsz := he.size; have hlg := Bx.lt hg; rw [← mixR_zero (partS S m n)] at hg)
      | (clear tk5; (with_reducible apply W_alloc); exact rfl; intro b5 wq hbq he hnq; have hltq := Bx.lt hbq; have hsz := he.size; have hx5 : Bx wq b5 [.slice none 0 0] 30 := hbq; have tkS : True := trivial)
      | (clear tkS; refine W_store (b := b5) (o := 0) (v := .slice (some ⟨g, 0, none⟩) m m) rfl hx5 (by decide) rfl rfl ?_; intro w5 hx5 hgq; have hx5 : Bx w5 b5 [.slice (some ⟨g, 0, none⟩) m m] 30 := hx5; have hsz := hgq.size; (have hg := Bx.grown (Bx.ex (by assumption) hg) hgq (by simp; omega)); have he : Ex w w5 := Ex.of_grown (show Ex w _ from (by repeat (first | exact Ex.refl _ | assumption | (refine Ex.of_grown ?_ (by assumption) (by intro k hk; cases hk; omega)) | (refine Ex.trans ?_ (by assumption))))) hgq (by intro k hk; cases hk; omega); have hx3 := Bx.grown (Bx.ex (show Ex _ _ from (by repeat (first | exact Ex.refl _ | assumption | (refine Ex.of_grown ?_ (by assumption) (by intro k hk; cases hk; omega)) | (refine Ex.trans ?_ (by assumption))))) hx3) hgq (by simp; omega))
      | ((first | ((with_reducible apply W_op); exact rfl; exact rfl) | ((with_reducible apply WQ_op); exact rfl; exact rfl; intro wq he) | ((with_reducible apply WM_op); exact rfl; exact rfl; intro wq he) | ((with_reducible apply WB_op); exact rfl; exact rfl; intro wq)); (first | ((with_reducible apply r_assign); ((conv => lhs; whnf) <;> exact rfl)) | ((with_reducible apply r_fieldAddr); exact rfl) | ((with_reducible apply r_load); exact rfl; exact rfl; (first | assumption | exact (Bx.cell (by repeat (first | assumption | ((with_reducible apply Bx.grownS); assumption; (first | omega | exact Bx.ne (by assumption) (by omega))) | ((with_reducible apply Bx.below); assumption; omega) | ((with_reducible apply Bx.ex); assumption))) _).trans rfl | exact Ex.cell (by assumption) (by assumption)))))
      | (refine W_call (backward_any sv us _ (Vals.ex (show Ex w _ from (by repeat (first | exact Ex.refl _ | assumption | (refine Ex.of_grown ?_ (by assumption) (by intro k hk; cases hk; omega)) | (refine Ex.trans ?_ (by assumption))))) h)) rfl ?_; rintro vq wq ⟨b1, rfl, hx1, hlb1⟩ he; have hsz := he.size)
      | (with_reducible apply W_nil)
      | (with_reducible apply c_seq)
      | ((with_reducible apply c_region); kernel_rfl)
      | (with_reducible apply n_nq)
      | (with_reducible apply c_block)
      | (with_reducible apply n_then))
  have hew5 : Ex w w5 := by assumption
  have hx3 := hx3.ex he
  have hx5 := hx5.ex he
  have hg := hg.ex he
  refine c_rangeAP (ps := [15, 16]) (vs := fun x : Value × Value => [x.1, x.2]) (B := w.heap.size) (gf := 113) (lb := #[.pointer (some ⟨b1, 0, none⟩)]) (fun L x => upd (upd (upd (upd L 15 x.1) 16 x.2) 6 x.1) 7 x.2) rfl (enters_of Try.func113 (by kernel_rfl) rfl) (backward1_seq sv us b1 w wq h ho hl ⟨hew5.trans he, hx1⟩) (fun pre x _ A A' row hT hg hr => hT) (fun A hA => hA) (fun h k hA => k (h hA)) (fun A i o o' hi hA ho _ hF => hF.put (by omega) hA ho) (fun _ => rfl) (by repeat (first | assumption | exact Al.nil _ _ | ((with_reducible apply Al.grownS); assumption; (focus ((repeat (first | assumption | ((with_reducible apply Bx.grownS); assumption; (first | omega | exact Bx.ne (by assumption) (by omega))) | ((with_reducible apply Bx.below); assumption; omega) | ((with_reducible apply Bx.ex); assumption))); done))) | (refine Al.ex (by assumption) ?_))) (by omega)
      (SpI w S m n b1 b3 b5 g 57 3 30 3 sv) (fun _ _ _ => False) (SpI.own (by omega)) (fun c s A A' row hs _ _ => hs) ⟨Nat.zero_le _, hx3, hx5, hg, hx1, hew5.trans he⟩ ?assign ?body ?done ?stop
  case assign =>
    intro i x A K hK
    repeat' (first
        | ((first | ((with_reducible apply W_op); exact rfl; exact rfl) | ((with_reducible apply WQ_op); exact rfl; exact rfl; intro wq he) | ((with_reducible apply WM_op); exact rfl; exact rfl; intro wq he) | ((with_reducible apply WB_op); exact rfl; exact rfl; intro wq)); (first | ((with_reducible apply r_assign); ((conv => lhs; whnf) <;> exact rfl))))
        | (with_reducible apply W_nil)
        | (with_reducible apply c_seq)
        | ((with_reducible apply c_region); kernel_rfl)
        | (with_reducible apply n_nq)
        | (with_reducible apply n_then))
    exact ⟨_, rfl, hK⟩
  case body =>
    rintro i pre x A ⟨hpm, hx3A, hx5A, hgA, hx1A, heA⟩ ⟨hpl, rfl⟩
    obtain ⟨k, hk⟩ : ∃ k, pre.length = k := ⟨_, rfl⟩
    rw [hk] at hpm hpl hx3A hgA
    rw [hk, hm]
    rw [hm] at hpl
    have hszA := heA.size
    have hu1 : (us.getD (m - 1 - k) undef).oneCell' = true := ho _ (by simp [List.getD]; rw [List.getElem?_eq_getElem (by omega)]; simp)
    have hin := hu (m - 1 - k) (by omega)
    obtain ⟨r, hr⟩ : ∃ r, remS S m n k = r := ⟨_, rfl⟩
    have hrn : r ≤ n := by rw [← hr]; exact remS_le k
    have hSr := hS (m - 1 - k) r (by omega) (by omega)
    have hgt : ((List.range (N + 1)).map (S (m - 1 - k))).getD r 0 = S (m - 1 - k) r := range_get (by omega)
    have hpt : partS S m n (m - 1 - k) = S (m - 1 - k) r := by unfold partS; rw [show m - 1 - (m - 1 - k) = k by omega, hr]
    have hrs : ((remS S m n (k + 1) : Nat) : Int) = (r : Int) - S (m - 1 - k) r := by simp only [remS]; rw [hr]; omega
    have hlN : ((List.range (N + 1)).map (S (m - 1 - k))).length = N + 1 := by simp
    rw [hr] at hx3A
    have tkA : True := trivial
    have tkB : True := trivial
    repeat' (first
        | (refine c_mix (id := 5) [] [0, 1, 2, 3, 4, 5, 6] [7] [false, false, false, false, false, false, false, false] [true, true, true, true, true, true, true, false] [none, none, none, none, none, none, none, some true] (by kernel_rfl) (by kernel_rfl) (by kernel_rfl) (by kernel_rfl) (by kernel_rfl) (by kernel_rfl) (by dsimp only [sel] <;> exact rfl) (by dsimp only [sel] <;> exact rfl) (by dsimp only [selT] <;> exact rfl) ?_)
        | ((with_reducible apply WM_indexInt); exact rfl; exact IntsK.ex (show Ex w _ from by first | assumption | exact Ex.trans heA (by repeat (first | assumption | exact Ex.refl _ | (refine Ex.trans ?_ (by assumption)) | (refine Ex.of_grown ?_ (by assumption) (by intro k hk; cases hk; omega))))) hin; exact rfl; omega; (intro pq hpq; rw [hgt] at hpq))
        | ((with_reducible apply WM_op); exact rfl; exact rfl; (intro wq he; exact r_indexBx4 (i := m - 1 - k) rfl (Eq.trans (b := Value.int .i64 _) rfl (congrArg _ (by omega))) (by omega)))
        | (clear tkA; refine W_store (b := g) (o := (m - 1 - k) * 1) (v := .int .i64 (S (m - 1 - k) r)) rfl (Bx.ex (by repeat (first | assumption | exact Ex.refl _ | (refine Ex.trans ?_ (by assumption)) | (refine Ex.of_grown ?_ (by assumption) (by intro k hk; cases hk; omega)))) hgA) (by rw [Nat.mul_one, List.length_map, mixR_len]; omega) rfl rfl ?_; intro wb hgB hgq; rw [← lset_eq, Nat.mul_one, ← hpt, mixR_set hpl] at hgB; (obtain ⟨wa, hea, hga⟩ : ∃ wa, Ex A wa ∧ wa.grownBy wb (some g) := ⟨_, by first | assumption | exact (by repeat (first | assumption | exact Ex.refl _ | (refine Ex.trans ?_ (by assumption)) | (refine Ex.of_grown ?_ (by assumption) (by intro k hk; cases hk; omega)))), hgq⟩); have hsz := hgq.size; (have hx3B := Bx.grown (Bx.ex (show Ex A _ from (by repeat (first | assumption | exact Ex.refl _ | (refine Ex.trans ?_ (by assumption)) | (refine Ex.of_grown ?_ (by assumption) (by intro k hk; cases hk; omega))))) hx3A) hgq (by simp; omega)); (have hx5B := Bx.grown (Bx.ex (show Ex A _ from (by repeat (first | assumption | exact Ex.refl _ | (refine Ex.trans ?_ (by assumption)) | (refine Ex.of_grown ?_ (by assumption) (by intro k hk; cases hk; omega))))) hx5A) hgq (by simp; omega)); (have hx1B := Bx.grown (Bx.ex (show Ex A _ from (by repeat (first | assumption | exact Ex.refl _ | (refine Ex.trans ?_ (by assumption)) | (refine Ex.of_grown ?_ (by assumption) (by intro k hk; cases hk; omega))))) hx1A) hgq (by simp; omega)); (have heB : Ex w wb := Ex.of_grown (Ex.trans heA (by repeat (first | assumption | exact Ex.refl _ | (refine Ex.trans ?_ (by assumption)) | (refine Ex.of_grown ?_ (by assumption) (by intro k hk; cases hk; omega))))) hgq (by intro k hk; cases hk; omega)); have tkC : True := trivial)
        | (have _ := tkC; refine c_mix (id := 6) [] [0, 1, 2, 3, 4, 5] [6] [false, false, false, false, false, false, false] [true, true, true, true, true, true, false] [none, none, none, none, none, none, some true] (by kernel_rfl) (by kernel_rfl) (by kernel_rfl) (by kernel_rfl) (by kernel_rfl) (by kernel_rfl) (by dsimp only [sel] <;> exact rfl) (by dsimp only [sel] <;> exact rfl) (by dsimp only [selT] <;> exact rfl) ?_)
        | (have _ := tkC; refine W_store (b := b3) (o := 0) (v := .int .i64 ((r : Int) - S (m - 1 - k) r)) rfl (Bx.ex (by repeat (first | assumption | exact Ex.refl _ | (refine Ex.trans ?_ (by assumption)) | (refine Ex.of_grown ?_ (by assumption) (by intro k hk; cases hk; omega)))) hx3B) (Nat.zero_lt_one) rfl rfl ?_; intro wz hx3C hgz; have hx3C : Bx wz b3 [.int .i64 ((r : Int) - S (m - 1 - k) r)] 3 := hx3C; (obtain ⟨we, hewe, hgz⟩ : ∃ we, Ex wb we ∧ we.grownBy wz (some b3) := ⟨_, by assumption, hgz⟩); rw [← hrs] at hx3C; clear tkC)
        | ((first | ((with_reducible apply W_op); exact rfl; exact rfl) | ((with_reducible apply WQ_op); exact rfl; exact rfl; intro wq he) | ((with_reducible apply WM_op); exact rfl; exact rfl; intro wq he) | ((with_reducible apply WB_op); exact rfl; exact rfl; intro wq)); (first | ((with_reducible apply r_move); ((conv => lhs; whnf) <;> exact rfl)) | ((with_reducible apply r_load); exact rfl; exact rfl; (first | assumption | exact (Bx.cell (by repeat (first | assumption | ((with_reducible apply Bx.grownS); assumption; (first | omega | exact Bx.ne (by assumption) (by omega))) | ((with_reducible apply Bx.below); assumption; omega) | ((with_reducible apply Bx.ex); assumption))) _).trans rfl | exact Ex.cell (by assumption) (by assumption))) | ((with_reducible apply r_sub); exact rfl; exact rfl; omega)))
        | (with_reducible apply W_nil)
        | (with_reducible apply WM_nil; intro wq he; have hsz := he.size)
        | (with_reducible apply WB_nil)
        | (with_reducible apply WT_nil)
        | (with_reducible apply WT_cons)
        | (with_reducible apply t_sink)
        | (with_reducible apply c_seq)
        | (with_reducible apply c_block)
        | (with_reducible apply n_then)
        | (with_reducible apply n_block))
    show KeepsOthers _ _ ∧ (_ → _) ∧ SpI _ _ _ _ _ _ _ _ _ _ _ _ _ _ _
    have hez : Ex w wz := Ex.of_grown (heB.trans hewe) hgz (by intro k hk; cases hk; omega)
    have hx1z := Bx.grown (hx1B.ex hewe) hgz (by simp; omega)
    refine ⟨(((keeps_of_ex hea).trans (keeps_gr hga (hgA.ex hea))).trans (keeps_of_ex hewe)).trans (keeps_gr hgz (hx3B.ex hewe)), fun _ => ⟨hez, hx1z⟩, ?_⟩
    unfold SpI
    rw [List.length_append, List.length_singleton, hk]
    exact ⟨by omega, hx3C, Bx.grown (hx5B.ex hewe) hgz (by simp; omega), Bx.grown (hgB.ex hewe) hgz (by simp; omega), hx1z, hez⟩
  case done =>
    rintro D xs A hD hS' ⟨hpm, hx3A, hx5A, hgA, hx1A, heA⟩ halA
    rw [hS', hm, mixR_all] at hgA
    repeat' (first
        | ((first | ((with_reducible apply W_op); exact rfl; exact rfl) | ((with_reducible apply WQ_op); exact rfl; exact rfl; intro wq he) | ((with_reducible apply WM_op); exact rfl; exact rfl; intro wq he) | ((with_reducible apply WB_op); exact rfl; exact rfl; intro wq)); (first | ((with_reducible apply r_assign); ((conv => lhs; whnf) <;> exact rfl)) | ((with_reducible apply r_load); exact rfl; exact rfl; (first | assumption | exact (Bx.cell (by repeat (first | assumption | ((with_reducible apply Bx.grownS); assumption; (first | omega | exact Bx.ne (by assumption) (by omega))) | ((with_reducible apply Bx.below); assumption; omega) | ((with_reducible apply Bx.ex); assumption))) _).trans rfl | exact Ex.cell (by assumption) (by assumption)))))
        | (with_reducible apply W_nil)
        | (with_reducible apply c_seq)
        | ((with_reducible apply c_region); kernel_rfl)
        | (with_reducible apply n_nq)
        | (with_reducible apply c_ret)
        | (with_reducible apply n_then)
        | (with_reducible apply n_block)
        | ((with_reducible apply m_ret1); (focus ((repeat (first | assumption | exact Al.nil _ _ | ((with_reducible apply Al.grownS); assumption; (focus ((repeat (first | assumption | ((with_reducible apply Bx.grownS); assumption; (first | omega | exact Bx.ne (by assumption) (by omega))) | ((with_reducible apply Bx.below); assumption; omega) | ((with_reducible apply Bx.ex); assumption))); done))) | (refine Al.ex (by assumption) ?_))); done)); exact rfl; ((conv => lhs; whnf) <;> exact rfl); refine ⟨_, rfl, ?_, (shut_grown _ _ (by repeat (first | assumption | exact Al.nil _ _ | ((with_reducible apply Al.grownS); assumption; (focus ((repeat (first | assumption | ((with_reducible apply Bx.grownS); assumption; (first | omega | exact Bx.ne (by assumption) (by omega))) | ((with_reducible apply Bx.below); assumption; omega) | ((with_reducible apply Bx.ex); assumption))); done))) | (refine Al.ex (by assumption) ?_))) (by repeat (first | assumption | exact Ex.refl _ | (refine Ex.trans ?_ (by assumption)) | (refine Ex.of_grown ?_ (by assumption) (by intro k hk; cases hk; omega)))) (Nat.le_refl _))⟩))
    exact ⟨g, rfl, Bx.shut (B := w.heap.size) (by repeat (first | assumption | exact Al.nil _ _ | ((with_reducible apply Al.grownS); assumption; (focus ((repeat (first | assumption | ((with_reducible apply Bx.grownS); assumption; (first | omega | exact Bx.ne (by assumption) (by omega))) | ((with_reducible apply Bx.below); assumption; omega) | ((with_reducible apply Bx.ex); assumption))); done))) | (refine Al.ex (by assumption) ?_))) (by repeat (first | assumption | ((with_reducible apply Bx.grownS); assumption; (first | omega | exact Bx.ne (by assumption) (by omega))) | ((with_reducible apply Bx.below); assumption; omega) | ((with_reducible apply Bx.ex); assumption))), by omega⟩
  case stop =>
    rintro D c pre A hD _ hf
    exact hf.elim
end Go.Proofs.Ytlphfobpheefkaa
