/-
  (heavy) (rows) What this text proves: what is demanded and delivered up to each tick, in plain functions; the ticks of a course, one by one. Conditions: the values read as lists.
-/
import Derived.Test.YtlphfobpheefkaaVBc
import Derived.Test.YtlphfobpheefkaaVAx
set_option linter.unusedVariables false
set_option linter.unusedSimpArgs false
namespace Go.Pv
open Go.RowKit Go.Sort
/-- What a regulator has passed on up to each tick, of what has come up to it. -/
def outN (A c : Nat → Int) : Nat → Int
  | 0 => 0
  | k + 1 => min (A (k + 1)) (outN A c k + c k)
/-- What has come to regulator q up to each tick (to the first one: F). -/
def cO (F : Nat → Int) (c : Nat → Nat → Int) : Nat → Nat → Int
  | 0 => F
  | q + 1 => outN (cO F c q) (c q)
/-- What all players demand in a tick, and up to it. -/
def dAt (Dm : Nat → List Int) (nd k : Nat) : Int := sumTo (atL Dm k nd) nd
def inN (Dm : Nat → List Int) (nd : Nat) : Nat → Int
  | 0 => 0
  | k + 1 => inN Dm nd k + dAt Dm nd k
def cpN (Cp : Nat → List Int) (q k : Nat) : Int := (Cp q).getD k 0
section
variable {A c : Nat → Int}
theorem out_le (h0 : 0 ≤ A 0) : ∀ k, outN A c k ≤ A k
  | 0 => h0
  | k + 1 => by simp only [outN]; omega
theorem out_mono {N : Nat} (hA : ∀ k, k < N → A k ≤ A (k + 1)) (h0 : 0 ≤ A 0) (hc : ∀ k, k < N → 0 ≤ c k) : ∀ k, k < N → outN A c k ≤ outN A c (k + 1) := fun k hk => by
  have h1 := out_le (A := A) (c := c) h0 k
  have h2 := hA k hk
  have h3 := hc k hk
  simp only [outN]; omega
theorem out_nonneg {N : Nat} (hA : ∀ k, k < N → A k ≤ A (k + 1)) (h0 : 0 ≤ A 0) (hc : ∀ k, k < N → 0 ≤ c k) : ∀ k, k ≤ N → 0 ≤ outN A c k
  | 0, _ => Int.le_refl _
  | k + 1, hk => Int.le_trans (out_nonneg hA h0 hc k (by omega)) (out_mono hA h0 hc k (by omega))
end
section
variable {F : Nat → Int} {c : Nat → Nat → Int} {N : Nat}
theorem cO_props (hF : ∀ k, k < N → F k ≤ F (k + 1)) (h0 : F 0 = 0) : ∀ (q : Nat), (∀ j, j < q → ∀ k, k < N → 0 ≤ c j k) → (∀ k, k < N → cO F c q k ≤ cO F c q (k + 1)) ∧ cO F c q 0 = 0 ∧ ∀ k, k ≤ N → 0 ≤ cO F c q k ∧ cO F c q k ≤ F k
  | 0, _ => by
    refine ⟨hF, h0, fun k hk => ⟨?_, Int.le_refl _⟩⟩
    show 0 ≤ F k
    induction k with
    | zero => omega
    | succ k ih => exact Int.le_trans (ih (by omega)) (hF k (by omega))
  | q + 1, hc => by
    obtain ⟨h1, h2, h3⟩ := cO_props hF h0 q (fun j hj => hc j (by omega))
    refine ⟨out_mono h1 (by omega) (hc q (by omega)), rfl, fun k hk => ⟨out_nonneg h1 (by omega) (hc q (by omega)) k hk, Int.le_trans (out_le (by omega) k) (h3 k hk).2⟩⟩
end
theorem sumTo_nn {xs : List Int} {b : Int} (h : ∀ j, 0 ≤ xs.getD j 0 ∧ xs.getD j 0 ≤ b) : ∀ k : Nat, 0 ≤ sumTo xs k ∧ sumTo xs k ≤ b * k
  | 0 => by simp [sumTo]
  | k + 1 => by
    have ih := sumTo_nn h k
    have := h k
    simp only [sumTo]
    rw [show b * ((k + 1 : Nat) : Int) = b * k + b by rw [Int.natCast_add, Int.mul_add]; simp]
    omega
theorem atL_nn {Dm : Nat → List Int} {nd n k : Nat} (hk : k < n) (h : ∀ j, j < nd → ∀ q, q < n → 0 ≤ (Dm j).getD q 0 ∧ (Dm j).getD q 0 ≤ 1000000) : ∀ j, 0 ≤ (atL Dm k nd).getD j 0 ∧ (atL Dm k nd).getD j 0 ≤ 1000000 := fun j => by
  by_cases e : j < nd
  · rw [atL_get e]; exact h j e k hk
  · rw [show (atL Dm k nd).getD j 0 = 0 by simp [List.getD, List.getElem?_eq_none (show (atL Dm k nd).length ≤ j by rw [atL_len]; omega)]]
    decide
theorem dAt_bd {Dm : Nat → List Int} {nd n k : Nat} (hk : k < n) (hnd : nd ≤ 3) (h : ∀ j, j < nd → ∀ q, q < n → 0 ≤ (Dm j).getD q 0 ∧ (Dm j).getD q 0 ≤ 1000000) : 0 ≤ dAt Dm nd k ∧ dAt Dm nd k ≤ 3000000 := by
  have := sumTo_nn (atL_nn hk h) nd
  unfold dAt
  omega
theorem inN_bd {Dm : Nat → List Int} {nd n : Nat} (hnd : nd ≤ 3) (h : ∀ j, j < nd → ∀ q, q < n → 0 ≤ (Dm j).getD q 0 ∧ (Dm j).getD q 0 ≤ 1000000) : ∀ k : Nat, k ≤ n → 0 ≤ inN Dm nd k ∧ inN Dm nd k ≤ 3000000 * k
  | 0, _ => by simp [inN]
  | k + 1, hk => by
    have ih := inN_bd hnd h k (by omega)
    have := dAt_bd (k := k) (by omega) hnd h
    simp only [inN]
    push_cast
    omega
theorem inN_mono {Dm : Nat → List Int} {nd n : Nat} (hnd : nd ≤ 3) (h : ∀ j, j < nd → ∀ q, q < n → 0 ≤ (Dm j).getD q 0 ∧ (Dm j).getD q 0 ≤ 1000000) (k : Nat) (hk : k < n) : inN Dm nd k ≤ inN Dm nd (k + 1) := by
  have := dAt_bd hk hnd h
  simp only [inN]; omega
/-- What the iterator of ticks says of each one. -/
def TkT (B n nd nc : Nat) (Dm Cp : Nat → List Int) (pre : List Value) (x : Value) (A : World) : Prop := pre.length < n ∧ ∃ d c, x = .agg #[d, c] ∧ (Ints A d (atL Dm pre.length nd) ∧ ∀ k, d.ownBlock = some k → B ≤ k) ∧ (Ints A c (atL Cp pre.length nc) ∧ ∀ k, c.ownBlock = some k → B ≤ k)
theorem TkT.own {B n nd nc : Nat} {Dm Cp : Nat → List Int} {pre : List Value} {x : Value} {A A' : World} {row : Option Nat} {b : Nat} (h : TkT B n nd nc Dm Cp pre x A) (hg : A.grownBy A' row) (hr : ∀ r, row = some r → b ≤ r ∧ ∃ o : Obj, A.heap[r]? = some o ∧ o.isCells = false) : TkT B n nd nc Dm Cp pre x A' := by
  obtain ⟨h1, d, c, h2, ⟨h3, h3'⟩, h4, h4'⟩ := h
  exact ⟨h1, d, c, h2, ⟨Ints.kc (KC.grown hg fun r e => (hr r e).2) h3, h3'⟩, Ints.kc (KC.grown hg fun r e => (hr r e).2) h4, h4'⟩
end Go.Pv
namespace Go.Proofs.Ytlphfobpheefkaa
open Go.Pv Go.RowKit Go.Sort
set_option maxHeartbeats 8000000
set_option maxRecDepth 20000
theorem ticks1_seq (dv cv : Value) (ds cs : List Value) (Dm Cp : Nat → List Int) (n b1 : Nat) (w0 w1 : World) (hd : Vals w0 dv ds) (hc : Vals w0 cv cs) (hD : ∀ j, j < ds.length → Ints w0 (ds.getD j undef) (Dm j) ∧ (Dm j).length = n) (hC : ∀ j, j < cs.length → Ints w0 (cs.getD j undef) (Cp j) ∧ (Cp j).length = n)
    (hdl : 1 ≤ ds.length ∧ ds.length ≤ 3) (hcl : cs.length ≤ 3) (hn : n ≤ 400) (hF : FrB w0 b1 [dv, cv] 59 w1) :
    SeqP Try.prog 95 #[.pointer (some ⟨b1, 0, none⟩)] (fun x : Value => [x].toArray) (fun X Y => FrB w0 b1 [dv, cv] 59 X → FrB w0 b1 [dv, cv] 59 Y) (TkT (b1 + 1) n ds.length cs.length Dm Cp) (fun xs => xs.length = n) (fun _ => True) w1 := by
  intro y J Jx w hW hJ hJx hY h0
  have hW2 : Ex w1 w := by unfold Ex; exact hW
  have hF0 := hF.ex hW2
  have hd1 := hd.one
  have hc1 := hc.one
  have hD0 := hD 0 (by omega)
  have hD01 := hD0.1.one
  have tkA : True := trivial
  refine callsIn_wide.2 ?_
  show Calls Try.prog _ (List.toArray [.func (.yield y) #[] #[], .pointer (some ⟨b1, 0, none⟩)]) w _
  refine calls_of_c Try.func95 rfl Try.ntmps95 (Nat.le_of_ble_eq_true rfl) (by dsimp only [ini, Nat.reduceAdd] <;> exact rfl) ?_
  -- calls_of_c Try.func95
  have hx0 := hF0.2
  have hew0 := hF0.1
  have hl0 : (Dm 0).length = n := hD0.2
  repeat' (first
      | (have _ := tkA; refine W_indexVals (i := 0) (v := dv) (xs := ds) rfl (Vals.ex (show Ex w0 _ from by first | assumption | exact Ex.trans hew0 (by repeat (first | assumption | exact Ex.refl _ | (refine Ex.trans ?_ (by assumption)) | (refine Ex.of_grown ?_ (by assumption) (by intro k hk; cases hk; omega))))) hd) rfl (by omega) ?_; intro pq hpq)
      | (have _ := tkA; (with_reducible apply W_op); exact rfl; exact rfl; exact r_lenInts rfl (IntsK.ex (show Ex w0 _ from by first | assumption | exact Ex.trans hew0 (by repeat (first | assumption | exact Ex.refl _ | (refine Ex.trans ?_ (by assumption)) | (refine Ex.of_grown ?_ (by assumption) (by intro k hk; cases hk; omega))))) hD0.1))
      | (clear tkB; (have hew1 := hcf.1); (have hszw := he.size); (have hlb1 := Bx.lt hx1); (by_cases hkn : k < n); all_goals (have tkC : True := trivial))
      | (have _ := tkC; (with_reducible apply c_cond_dec); exact rfl; intro _; rotate_left 1; intro _; (all_goals (try (exfalso; (focus (omega; done))))))
      | (have _ := tkC; refine c_mixY (id := 3) [0, 1, 2, 3, 5, 6, 7] 5 #[true, true, true, true, false, true, true, true, false, false, false, false] [true, true, true, true, false, true, true, true, false, false, false, false] (by kernel_rfl) (by kernel_rfl) (by dsimp only [sel] <;> exact rfl) ?_)
      | (have _ := tkC; refine W_call (at_any dv ds Dm k _ (Vals.ex (show Ex w0 _ from Ex.trans hew1 (by repeat (first | assumption | exact Ex.refl _ | (refine Ex.trans ?_ (by assumption)) | (refine Ex.of_grown ?_ (by assumption) (by intro k hk; cases hk; omega))))) hd) (fun j hj => ⟨IntsK.ex (show Ex w0 _ from Ex.trans hew1 (by repeat (first | assumption | exact Ex.refl _ | (refine Ex.trans ?_ (by assumption)) | (refine Ex.of_grown ?_ (by assumption) (by intro k hk; cases hk; omega))))) (hD j hj).1, by rw [(hD j hj).2]; exact hkn⟩) (by omega)) rfl ?_; rintro r1 wq hr1 he; have hsz := he.size; have hr11 := hr1.one; (have hr1b : ∀ k, r1.ownBlock = some k → b1 + 1 ≤ k := fun k hk => by have := (hr1.block k hk).1; omega); have hr1 := hr1.ints)
      | (have _ := tkC; refine W_call (at_any cv cs Cp k _ (Vals.ex (show Ex w0 _ from Ex.trans hew1 (by repeat (first | assumption | exact Ex.refl _ | (refine Ex.trans ?_ (by assumption)) | (refine Ex.of_grown ?_ (by assumption) (by intro k hk; cases hk; omega))))) hc) (fun j hj => ⟨IntsK.ex (show Ex w0 _ from Ex.trans hew1 (by repeat (first | assumption | exact Ex.refl _ | (refine Ex.trans ?_ (by assumption)) | (refine Ex.of_grown ?_ (by assumption) (by intro k hk; cases hk; omega))))) (hC j hj).1, by rw [(hC j hj).2]; exact hkn⟩) (by omega)) rfl ?_; rintro r2 wq hr2 he; have hsz := he.size; have hr21 := hr2.one; (have hr2b : ∀ k, r2.ownBlock = some k → b1 + 1 ≤ k := fun k hk => by have := (hr2.block k hk).1; omega); have hr2 := hr2.ints)
      | ((with_reducible (show C _ _ _ _ _ _)); clear tkA; refine c_loopG (fun (k : Nat) ps wr => ∃ i : Int, ∃ w : World, ∃ ys : List Value, ps = [(0, .func (.yield y) #[] #[]), (1, .pointer (some ⟨b1, 0, none⟩)), (8, .int .i64 ((Dm 0).length : Int)), (9, .int .i64 i)] ∧ i = k ∧ k ≤ n ∧ ys.length = k ∧ J ys w ∧ FrB w0 b1 [dv, cv] 59 w ∧ Bx wr b1 [dv, cv] 59 ∧ Ex w wr) (fun k => n - k) 0 _ ⟨_, _, _, rfl, rfl, Nat.zero_le _, rfl, h0, hF0, hx0, Ex.refl _⟩ ⟨rfl, rfl, rfl, rfl, trivial⟩ (by ((conv => lhs; whnf) <;> exact rfl)) (by ((conv => lhs; whnf) <;> exact rfl)) ?_; rintro JJ hJJ k u ps wr ⟨i, w, ys, rfl, rfl, hk, hys, hj0, hcf, hx1, he⟩; have hsz := he.size; have tkB : True := trivial)
      | ((first | ((with_reducible apply W_op); exact rfl; exact rfl) | ((with_reducible apply WQ_op); exact rfl; exact rfl; intro wq he) | ((with_reducible apply WM_op); exact rfl; exact rfl; intro wq he) | ((with_reducible apply WB_op); exact rfl; exact rfl; intro wq)); (first | ((with_reducible apply r_move); ((conv => lhs; whnf) <;> exact rfl)) | ((with_reducible apply r_assign); ((conv => lhs; whnf) <;> exact rfl)) | ((with_reducible apply r_fieldAddr); exact rfl) | ((with_reducible apply r_load); exact rfl; exact rfl; (first | assumption | exact (Bx.cell (by repeat (first | assumption | ((with_reducible apply Bx.grownS); assumption; (first | omega | exact Bx.ne (by assumption) (by omega))) | ((with_reducible apply Bx.below); assumption; omega) | ((with_reducible apply Bx.ex); assumption))) _).trans rfl | exact Ex.cell (by assumption) (by assumption))) | ((with_reducible apply r_lss); exact rfl; exact rfl) | ((with_reducible apply r_add); exact rfl; exact rfl; omega) | ((with_reducible apply r_notb); exact rfl) | ((with_reducible apply r_build2); ((conv => lhs; whnf) <;> exact rfl); ((conv => lhs; whnf) <;> exact rfl); (first | exact rfl | assumption | exact IntsK.one (by assumption) | exact Prs.one (by assumption) | exact OwnP.one (by assumption) | exact Own.one (by assumption) | exact Row.one (by assumption) | exact OwnR.one (by assumption)); (first | exact rfl | assumption | exact IntsK.one (by assumption) | exact Prs.one (by assumption) | exact OwnP.one (by assumption) | exact Own.one (by assumption) | exact Row.one (by assumption) | exact OwnR.one (by assumption)); exact rfl; exact rfl; ((simp only [lay, lset, List.replicate_succ, List.replicate_zero]) <;> exact rfl))))
      | (refine YT_one (t := 4) (s := false) (listed := #[true, true, true, true, false, true, true, true, false, false, false, false]) (listed' := #[true, true, true, true, true, true, true, true, false, false, false, false]) (by kernel_rfl) rfl (by kernel_rfl) (by kernel_rfl) ?_)
      | (refine YT_one (t := 8) (s := false) (listed := #[true, true, true, true, true, true, true, true, false, false, false, false]) (listed' := #[true, true, true, true, true, true, true, true, true, false, false, false]) (by kernel_rfl) rfl (by kernel_rfl) (by kernel_rfl) ?_)
      | (refine YT_one (t := 9) (s := false) (listed := #[true, true, true, true, true, true, true, true, true, false, false, false]) (listed' := #[true, true, true, true, true, true, true, true, true, true, false, false]) (by kernel_rfl) rfl (by kernel_rfl) (by kernel_rfl) ?_)
      | ((refine YT_yield (t := 10) (listed := #[true, true, true, true, true, true, true, true, true, true, false, false]) (listed' := #[true, true, true, true, true, true, true, true, true, true, true, false]) (by kernel_rfl) rfl (by kernel_rfl) (by kernel_rfl) rfl rfl (hY ys (.agg #[r1, r2]) _ (hJ _ _ _ none hj0 (Ex.grownBy (by repeat (first | assumption | exact Ex.refl _ | (refine Ex.trans ?_ (by assumption)) | (refine Ex.of_grown ?_ (by assumption) (by intro k hk; cases hk; omega))))) (by intro r e; cases e)) ⟨by omega, r1, r2, rfl, ⟨by rw [hys]; exact IntsK.ex (by repeat (first | assumption | exact Ex.refl _ | (refine Ex.trans ?_ (by assumption)) | (refine Ex.of_grown ?_ (by assumption) (by intro k hk; cases hk; omega)))) hr1, hr1b⟩, by rw [hys]; exact IntsK.ex (by repeat (first | assumption | exact Ex.refl _ | (refine Ex.trans ?_ (by assumption)) | (refine Ex.of_grown ?_ (by assumption) (by intro k hk; cases hk; omega)))) hr2, hr2b⟩) (by rintro e w' (⟨rfl, _⟩ | ⟨rfl, _⟩) <;> exact ⟨_, rfl⟩) ?_); (rintro bb wy (⟨e, hj1, hk1⟩ | ⟨e, hj1⟩) <;> cases e))
      | (refine YT_one (t := 11) (s := true) (listed := #[true, true, true, true, true, true, true, true, true, true, true, false]) (listed' := #[true, true, true, true, true, true, true, true, true, true, true, true]) (by kernel_rfl) rfl (by kernel_rfl) (by kernel_rfl) ?_)
      | ((with_reducible apply YM_nil); intro wq he; have hsz := he.size)
      | ((with_reducible apply YT_nil); kernel_rfl)
      | (with_reducible apply y_sink)
      | ((with_reducible apply y_keep); (focus ((repeat (first | assumption | exact Ex.refl _ | (refine Ex.trans ?_ (by assumption)) | (refine Ex.of_grown ?_ (by assumption) (by intro k hk; cases hk; omega)))); done)); intro wq he; have hsz := he.size)
      | ((with_reducible (show Exit.then _ _ _ _ _)); refine n_roundG (k + 1) (hJJ _ _ _ _ ⟨_, _, _, rfl, by omega, by omega, (by rw [List.length_append, hys]; rfl), hj1, hk1 (hcf.ex (by repeat (first | assumption | exact Ex.refl _ | (refine Ex.trans ?_ (by assumption)) | (refine Ex.of_grown ?_ (by assumption) (by intro k hk; cases hk; omega))))), (hk1 (hcf.ex (by repeat (first | assumption | exact Ex.refl _ | (refine Ex.trans ?_ (by assumption)) | (refine Ex.of_grown ?_ (by assumption) (by intro k hk; cases hk; omega)))))).2, Ex.refl _⟩ ⟨rfl, rfl, rfl, rfl, trivial⟩ rfl) (by omega))
      | (with_reducible apply W_nil)
      | (with_reducible apply c_seq)
      | ((with_reducible apply c_region); kernel_rfl)
      | (with_reducible apply n_nq)
      | (with_reducible apply c_block)
      | (with_reducible apply c_skip)
      | (with_reducible apply c_ret)
      | (with_reducible apply c_exit)
      | ((with_reducible apply c_cond_true); exact rfl)
      | ((with_reducible apply c_cond_false); exact rfl)
      | (with_reducible apply n_then)
      | (with_reducible apply n_block)
      | (with_reducible apply e_then)
      | (with_reducible apply e_block)
      | (with_reducible apply r_then)
      | (with_reducible apply r_block))
  all_goals first
    | exact p_ret0 rfl rfl ⟨⟨_, rfl⟩, .inr ⟨_, trivial, hj1⟩⟩
    | exact p_end0 rfl rfl ⟨⟨_, rfl⟩, .inl ⟨ys, (by omega), hJ _ _ _ none hj0 (Ex.grownBy (by repeat (first | assumption | exact Ex.refl _ | (refine Ex.trans ?_ (by assumption)) | (refine Ex.of_grown ?_ (by assumption) (by intro k hk; cases hk; omega))))) (by intro r e; cases e)⟩⟩
    | trace_state
end Go.Proofs.Ytlphfobpheefkaa
