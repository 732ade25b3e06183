/-
  (heavy) (rows) What this text proves: lacks and delays of a course are as the plain functions say. Conditions: the values read as lists.
-/
import Derived.Test.YtlphfobpheefkaaVBe
set_option linter.unusedVariables false
set_option linter.unusedSimpArgs false
namespace Go.Pv
open Go.RowKit Go.Sort
section
variable {P : Program} {l : St} {w : World} {od : Option Nat} {ty : TypeId} {pos : String} {af : Array Edge}
theorem r_dropI {x lo : Operand} {T e : TypeId} {v : Value} {i : Nat} {k kk : IntKind} {z : Value} {b : Nat} {xs : List Int} [h : Und P T (.slice e)] [hs : Sz P e z 1 b] (hx : ev l x = v) (hv : IntsK kk w v xs) (hi : ev l lo = .int k (i : Int)) (h1 : i ≤ xs.length) :
    Runs P ⟨od, .slice T x (some lo) none none, ty, pos, af, none⟩ l w (partV v i xs.length) := by
  unfold IntsK Sl at hv
  obtain ⟨_, a, cap, rfl, hc, hm, _⟩ := hv
  have h2 : i ≤ cap := by omega
  simp [Runs, execOp, hx, hi, Instr.sliceAt, Instr.slice, Instr.sliceBounds, Instr.sliceBound, asIntOf, h.run, hs.run, h1, h2, hc, partV]
end
/-- The first place from k on, of so many, where something holds, or -1. -/
def dlyF (p : Nat → Bool) : Nat → Nat → Int
  | 0, _ => -1
  | f + 1, k => if p k then (k : Int) else dlyF p f (k + 1)
theorem dlyF_yes {p : Nat → Bool} {f k : Nat} (h : p k = true) : dlyF p (f + 1) k = k := by simp only [dlyF]; exact if_pos h
theorem dlyF_no {p : Nat → Bool} {f k : Nat} (h : p k = false) : dlyF p (f + 1) k = dlyF p f (k + 1) := by simp only [dlyF, h]; rfl
theorem dlyF_ext {p q : Nat → Bool} : ∀ (f k : Nat), (∀ j, k ≤ j → j < k + f → p j = q j) → dlyF p f k = dlyF q f k
  | 0, _, _ => rfl
  | f + 1, k, h => by
    simp only [dlyF]
    rw [h k (Nat.le_refl _) (by omega), dlyF_ext f (k + 1) fun j h1 h2 => h j (by omega) (by omega)]
/-- What the search finds. -/
theorem dlyF_spec {p : Nat → Bool} : ∀ (f k : Nat), (dlyF p f k = -1 ∧ ∀ j, k ≤ j → j < k + f → p j = false) ∨ ∃ j, dlyF p f k = (j : Nat) ∧ k ≤ j ∧ j < k + f ∧ p j = true ∧ ∀ i, k ≤ i → i < j → p i = false
  | 0, k => .inl ⟨rfl, fun j h1 h2 => by omega⟩
  | f + 1, k => by
    cases hp : p k with
    | true => exact .inr ⟨k, dlyF_yes hp, Nat.le_refl _, by omega, hp, fun i h1 h2 => by omega⟩
    | false =>
      rw [dlyF_no hp]
      rcases dlyF_spec (p := p) f (k + 1) with ⟨h1, h2⟩ | ⟨j, h1, h2, h3, h4, h5⟩
      · refine .inl ⟨h1, fun j h3 h4 => ?_⟩
        by_cases e : j = k
        · subst e; exact hp
        · exact h2 j (by omega) (by omega)
      · refine .inr ⟨j, h1, by omega, by omega, h4, fun i h6 h7 => ?_⟩
        by_cases e : i = k
        · subst e; exact hp
        · exact h5 i (by omega) h7
/-- The lack and the delay of a tick. -/
def lkN (F O : Nat → Int) (t : Nat) : Int := F (t + 1) - O (t + 1)
def dyN (F O : Nat → Int) (n t : Nat) : Int := dlyF (fun k => decide (F (t + 1) ≤ O (t + k + 1))) (n - t) 0
theorem ownI_ints {E : TypeId} {base : Nat} {w : World} {v : Value} {xs : List Int} (h : OwnV E base w v (xs.map (Value.int .i64))) : Ints w v xs := by
  have h2 : Own E base w v xs := by unfold OwnV at h; unfold Own; simpa using h
  exact h2.ints
theorem map_len {f : Nat → Int} {N : Nat} : ((List.range N).map f).length = N := by simp
theorem map_next {f : Nat → Int} {N : Nat} : (List.range (N + 1)).map f = (List.range N).map f ++ [f N] := by simp [List.range_succ]
end Go.Pv
namespace Go.Proofs.Ytlphfobpheefkaa
open Go.Pv Go.RowKit Go.Sort
set_option maxHeartbeats 8000000
set_option maxRecDepth 20000
theorem ge1_any (a x : Int) (b : Nat) (w : World) (hb : Bx w b [.int .i64 a] 3) : Ret Try.prog 54 [.int .i64 x, .pointer (some ⟨b, 0, none⟩)] w fun r _ => r = .bool (decide (a ≤ x)) := by
  refine ret_of_c Try.func54 rfl Try.ntmps54 (Nat.le_of_ble_eq_true rfl) (by dsimp only [ini, Nat.reduceAdd] <;> exact rfl) ?_
  repeat' (first
      | ((first | ((with_reducible apply W_op); exact rfl; exact rfl)); (first | ((with_reducible apply r_move); ((conv => lhs; whnf) <;> exact rfl)) | ((with_reducible apply r_assign); ((conv => lhs; whnf) <;> exact rfl)) | ((with_reducible apply r_load); exact rfl; exact rfl; (first | assumption | exact (Bx.cell (by repeat (first | assumption | ((with_reducible apply Bx.grownS); assumption; (first | omega | exact Bx.ne (by assumption) (by omega))) | ((with_reducible apply Bx.below); assumption; omega) | ((with_reducible apply Bx.ex); assumption))) _).trans rfl | exact Ex.cell (by assumption) (by assumption))) | ((with_reducible apply r_geq); exact rfl; exact rfl)))
      | (with_reducible apply W_nil)
      | (with_reducible apply c_seq)
      | ((with_reducible apply c_region); kernel_rfl)
      | (with_reducible apply n_nq)
      | (with_reducible apply c_ret)
      | (with_reducible apply n_then)
      | ((with_reducible apply p_ret1); exact rfl; exact rfl; ((conv => lhs; whnf) <;> exact rfl); refine ⟨_, rfl, ?_, (by repeat (first | assumption | exact Ex.refl _ | (refine Ex.trans ?_ (by assumption)) | (refine Ex.of_grown ?_ (by assumption) (by intro k hk; cases hk; omega))))⟩))
  all_goals first
    | rfl
    | trace_state
theorem idxGe_any (lv : Value) (xs : List Int) (a : Int) (b : Nat) (w : World) (h : Ints w lv xs) (hb : Bx w b [.int .i64 a] 3) :
    Ret Try.prog 53 [lv, .func (.func 54) #[] #[.pointer (some ⟨b, 0, none⟩)]] w fun r _ => r = .int .i64 (dlyF (fun k => decide (a ≤ xs.getD k 0)) xs.length 0) := by
  have hv1 := h.one
  have hln := h.len
  have tkA : True := trivial
  refine ret_of_c Try.func53 rfl Try.ntmps53 (Nat.le_of_ble_eq_true rfl) (by dsimp only [ini, Nat.reduceAdd] <;> exact rfl) ?_
  repeat' (first
      | (clear tkB; (by_cases hkl : k < xs.length; ((have hcl := fun w2 (e : Ex w w2) => ge1_any a (xs.getD k 0) b w2 (Bx.ex e hb)); by_cases hn : a ≤ xs.getD k 0; (simp only [hn, decide_true] at hcl); rotate_left 1; (simp only [hn, decide_false] at hcl))); all_goals (have tkC : True := trivial))
      | ((with_reducible apply W_op); exact rfl; exact rfl; exact r_lenInts rfl (IntsK.ex (show Ex w _ from (by repeat (first | exact Ex.refl _ | assumption | (refine Ex.of_grown ?_ (by assumption) (by intro k hk; cases hk; omega)) | (refine Ex.trans ?_ (by assumption))))) h))
      | (have _ := tkC; (with_reducible apply c_cond_dec); exact rfl; intro _; rotate_left 1; intro _; (all_goals (try (exfalso; (focus (omega; done))))))
      | (have _ := tkC; refine W_indexInt (i := k) (v := lv) (xs := xs) rfl (IntsK.ex (show Ex w _ from (by repeat (first | exact Ex.refl _ | assumption | (refine Ex.of_grown ?_ (by assumption) (by intro k hk; cases hk; omega)) | (refine Ex.trans ?_ (by assumption))))) h) rfl (by omega) ?_; intro pq hpq)
      | (have _ := tkC; refine W_callf (first := []) (captured := [.pointer (some ⟨b, 0, none⟩)]) rfl (hcl _ (by repeat (first | assumption | exact Ex.refl _ | (refine Ex.trans ?_ (by assumption)) | (refine Ex.of_grown ?_ (by assumption) (by intro k hk; cases hk; omega))))) rfl ?_; rintro vq wq rfl he; have hsz := he.size)
      | ((with_reducible (show C _ _ _ _ _ _)); clear tkA; refine c_loopG (fun (k : Nat) ps wr => ∃ i : Int, ps = [(0, lv), (1, .func (.func 54) #[] #[.pointer (some ⟨b, 0, none⟩)]), (6, lv), (7, .int .i64 (xs.length : Int)), (8, .int .i64 i)] ∧ i = k ∧ k ≤ xs.length ∧ dlyF (fun k => decide (a ≤ xs.getD k 0)) xs.length 0 = dlyF (fun k => decide (a ≤ xs.getD k 0)) (xs.length - k) k ∧ Ex w wr) (fun k => xs.length - k) 0 _ ⟨_, rfl, rfl, Nat.zero_le _, rfl, (by repeat (first | assumption | exact Ex.refl _ | (refine Ex.trans ?_ (by assumption)) | (refine Ex.of_grown ?_ (by assumption) (by intro k hk; cases hk; omega))))⟩ ⟨rfl, rfl, rfl, rfl, rfl, trivial⟩ (by ((conv => lhs; whnf) <;> exact rfl)) (by ((conv => lhs; whnf) <;> exact rfl)) ?_; rintro J hJ k u ps wr ⟨i, rfl, rfl, hk, hall, he⟩; have hsz := he.size; have tkB : True := trivial)
      | ((first | ((with_reducible apply W_op); exact rfl; exact rfl)); (first | ((with_reducible apply r_move); ((conv => lhs; whnf) <;> exact rfl)) | ((with_reducible apply r_assign); ((conv => lhs; whnf) <;> exact rfl)) | ((with_reducible apply r_load); exact rfl; exact rfl; (first | assumption | exact (Bx.cell (by repeat (first | assumption | ((with_reducible apply Bx.grownS); assumption; (first | omega | exact Bx.ne (by assumption) (by omega))) | ((with_reducible apply Bx.below); assumption; omega) | ((with_reducible apply Bx.ex); assumption))) _).trans rfl | exact Ex.cell (by assumption) (by assumption))) | ((with_reducible apply r_lss); exact rfl; exact rfl) | ((with_reducible apply r_add); exact rfl; exact rfl; omega)))
      | ((with_reducible (show Exit.then _ _ _ _ _)); refine n_roundG (k + 1) (hJ _ _ _ _ ⟨_, rfl, by omega, by omega, (by rw [hall, show xs.length - k = (xs.length - (k + 1)) + 1 by omega, dlyF_no (by simpa using hn)]), (by repeat (first | assumption | exact Ex.refl _ | (refine Ex.trans ?_ (by assumption)) | (refine Ex.of_grown ?_ (by assumption) (by intro k hk; cases hk; omega))))⟩ ⟨rfl, rfl, rfl, rfl, rfl, trivial⟩ rfl) (by omega))
      | (with_reducible apply W_nil)
      | (with_reducible apply c_seq)
      | ((with_reducible apply c_region); kernel_rfl)
      | (with_reducible apply n_nq)
      | (with_reducible apply c_block)
      | (with_reducible apply c_skip)
      | (with_reducible apply c_ret)
      | (with_reducible apply c_exit)
      | ((with_reducible apply c_cond_true); exact rfl)
      | ((with_reducible apply c_cond_false); exact rfl)
      | (with_reducible apply n_then)
      | (with_reducible apply n_block)
      | (with_reducible apply e_then)
      | (with_reducible apply e_block)
      | (with_reducible apply r_then)
      | (with_reducible apply r_block)
      | ((with_reducible apply p_ret1); exact rfl; exact rfl; ((conv => lhs; whnf) <;> exact rfl); refine ⟨_, rfl, ?_, (by repeat (first | assumption | exact Ex.refl _ | (refine Ex.trans ?_ (by assumption)) | (refine Ex.of_grown ?_ (by assumption) (by intro k hk; cases hk; omega))))⟩))
  all_goals first
    | (refine congrArg _ ?_; rw [hall, show xs.length - k = 0 by omega]; rfl)
    | (refine congrArg _ ?_; rw [hall, show xs.length - k = (xs.length - (k + 1)) + 1 by omega, dlyF_yes (by simpa using hn)])
    | trace_state
theorem Lacks_any (pv rv dv cv : Value) (us vs ds cs : List Value) (pls rs : List (List (Int × Int))) (Dm Cp : Nat → List Int) (w : World) (h : Vals w pv us) (hx : BLs w us pls) (h2 : Vals w rv vs) (hx2 : BLs w vs rs) (hd : Vals w dv ds) (hc : Vals w cv cs)
    (hD : ∀ j, j < ds.length → Ints w (ds.getD j undef) (Dm j)) (hC : ∀ j, j < cs.length → Ints w (cs.getD j undef) (Cp j)) : Ret Try.prog 29 [.agg #[pv, rv], .agg #[dv, cv]] w fun r w' => ∃ lv yv e, r = .tuple #[lv, yv, .int .i64 e] ∧
      ((pErr pls rs ≠ 0 ∧ e = pErr pls rs ∧ lv = .slice none 0 0 ∧ yv = .slice none 0 0) ∨ (pErr pls rs = 0 ∧ crsErr pls rs ds.length cs.length Dm Cp ≠ 0 ∧ e = crsErr pls rs ds.length cs.length Dm Cp ∧ lv = .slice none 0 0 ∧ yv = .slice none 0 0) ∨
       (pErr pls rs = 0 ∧ crsErr pls rs ds.length cs.length Dm Cp = 0 ∧ e = 0 ∧ Ints w' lv ((List.range (Dm 0).length).map (lkN (inN Dm ds.length) (cO (inN Dm ds.length) (cpN Cp) rs.length))) ∧ Ints w' yv ((List.range (Dm 0).length).map (dyN (inN Dm ds.length) (cO (inN Dm ds.length) (cpN Cp) rs.length) (Dm 0).length)))) := by
  have hp1 := h.one
  have hr1 := h2.one
  have hd1 := hd.one
  have hc1 := hc.one
  have hck := fun w2 (e : Ex w w2) => Check_any pv rv us vs pls rs w2 (Vals.ex e h) (BLs.ex e hx) (Vals.ex e h2) (BLs.ex e hx2)
  by_cases hpe : pErr pls rs = 0
  · rw [hpe] at hck ⊢
    obtain ⟨hl1, hl2, hb1, hb2⟩ := pErr_inv hpe
    have hcc := fun w2 (e : Ex w w2) => checkCourse_any pv rv dv cv us vs ds cs pls rs Dm Cp w2 (Vals.ex e h) (BLs.ex e hx) (Vals.ex e h2) (BLs.ex e hx2) hpe (Vals.ex e hd) (Vals.ex e hc) (fun j hj => IntsK.ex e (hD j hj)) (fun j hj => IntsK.ex e (hC j hj))
    by_cases hce : crsErr pls rs ds.length cs.length Dm Cp = 0
    · rw [hce] at hcc ⊢
      obtain ⟨c1, c2, c3, c4, c5, c6, c7, c8⟩ := crs_inv hce
      obtain ⟨n, hn⟩ : ∃ n, (Dm 0).length = n := ⟨_, rfl⟩
      rw [hn] at c3 c4 c5 ⊢
      have hDa : ∀ j, j < ds.length → ∀ q, q < n → 0 ≤ (Dm j).getD q 0 ∧ (Dm j).getD q 0 ≤ 1000000 := fun j hj q hq => c6 j hj q (by rw [c4 j hj]; exact hq)
      have hCa : ∀ j, j < cs.length → ∀ q, q < n → 0 ≤ (Cp j).getD q 0 ∧ (Cp j).getD q 0 ≤ 1000000 := fun j hj q hq => c7 j hj q (by rw [c5 j hj]; exact hq)
      have hrun := fun w2 (e : Ex w w2) => run_any pv rv dv cv us vs ds cs pls rs Dm Cp n w2 (Vals.ex e h) (BLs.ex e hx) (Vals.ex e h2) (BLs.ex e hx2) hl2 (Vals.ex e hd) (Vals.ex e hc) (fun j hj => ⟨IntsK.ex e (hD j hj), c4 j hj⟩) (fun j hj => ⟨IntsK.ex e (hC j hj), c5 j hj⟩) (by omega) c2 c3 hDa hCa
      have hFb := inN_bd (n := n) (by omega) hDa
      have hOb := (cO_props (F := inN Dm ds.length) (c := cpN Cp) (N := n) (inN_mono (by omega) hDa) rfl rs.length (fun j hj k hk => (hCa j (by omega) k hk).1)).2.2
      obtain ⟨F, hF⟩ : ∃ F, inN Dm ds.length = F := ⟨_, rfl⟩
      rw [hF] at hrun hFb hOb ⊢
      obtain ⟨O, hO⟩ : ∃ O, cO F (cpN Cp) rs.length = O := ⟨_, rfl⟩
      rw [hO] at hrun hOb ⊢
      have tkA : True := trivial
      refine ret_of_c Try.func29 rfl Try.ntmps29 (Nat.le_of_ble_eq_true rfl) (by dsimp only [ini, Nat.reduceAdd] <;> exact rfl) ?_
      repeat' (first
          | ((with_reducible apply c_cond_dec); exact rfl; intro _; rotate_left 1; intro _; (all_goals (try (exfalso; (focus (omega; done))))))
          | (refine W_call (hrun _ (by repeat (first | assumption | exact Ex.refl _ | (refine Ex.trans ?_ (by assumption)) | (refine Ex.of_grown ?_ (by assumption) (by intro k hk; cases hk; omega))))) rfl ?_; rintro vq wr0 ⟨iv, ov, rfl, hiv, hov⟩ he; have hsz := he.size; (have hiv1 := hiv.one); (have hov1 := hov.one); (have hew0 : Ex w wr0 := (show Ex w _ from (by repeat (first | exact Ex.refl _ | assumption | (refine Ex.of_grown ?_ (by assumption) (by intro k hk; cases hk; omega)) | (refine Ex.trans ?_ (by assumption)))))))
          | ((with_reducible apply W_op); exact rfl; exact rfl; exact r_lenInts rfl (IntsK.ex (show Ex wr0 _ from (by repeat (first | exact Ex.refl _ | assumption | (refine Ex.of_grown ?_ (by assumption) (by intro k hk; cases hk; omega)) | (refine Ex.trans ?_ (by assumption))))) hiv))
          | ((with_reducible (show C _ _ _ _ _ _)); clear tkA; refine c_loopG (fun (k : Nat) ps wr => ∃ lv : Value, ∃ yv : Value, ∃ i : Int, ps = [(4, lv), (5, yv), (10, ov), (30, iv), (31, .int .i64 (((List.range n).map fun t => F (t + 1)).length : Int)), (32, .int .i64 i)] ∧ i = k ∧ k ≤ n ∧ TwoV 3 wr0.heap.size wr lv yv (((List.range k).map (lkN F O)).map (Value.int .i64)) (((List.range k).map (dyN F O n)).map (Value.int .i64)) ∧ Ex wr0 wr ∧ Ex w wr) (fun k => n - k) 0 _ ⟨_, _, _, rfl, rfl, Nat.zero_le _, TwoV.nil _ _ _, Ex.refl _, hew0⟩ ⟨rfl, rfl, rfl, rfl, rfl, rfl, trivial⟩ (by ((conv => lhs; whnf) <;> exact rfl)) (by ((conv => lhs; whnf) <;> exact rfl)) ?_; rintro J hJ k u ps wr ⟨lv, yv, i, rfl, rfl, hk, htw, hr0, he⟩; have hsz := he.size; have tkB : True := trivial)
          | (clear tkB; (have hl0 := htw.1.one); (have hy0 := htw.2.1.one); (have hllt := htw.1.lt); (have hylt := htw.2.1.lt); (have hs0 := hr0.size); (have hml := @map_len (fun t => F (t + 1)) n); (have hmo := @map_len (fun t => O (t + 1)) n); (have hm1 := @map_len (lkN F O) k); (have hm2 := @map_len (dyN F O n) k); (by_cases hkn : k < n; (have hie := range_get (f := fun t => F (t + 1)) hkn); (have hoe := range_get (f := fun t => O (t + 1)) hkn); (have hFk := hFb (k + 1) (by omega)); (have hOk := hOb (k + 1) (by omega)); (obtain ⟨fk, hfk⟩ : ∃ q, F (k + 1) = q := ⟨_, rfl⟩); (obtain ⟨ok, hok⟩ : ∃ q, O (k + 1) = q := ⟨_, rfl⟩); (have hie : (List.map (fun t => F (t + 1)) (List.range n)).getD k 0 = fk := hie.trans hfk); (have hoe : (List.map (fun t => O (t + 1)) (List.range n)).getD k 0 = ok := hoe.trans hok); rw [hfk] at hFk; rw [hok] at hOk; (have hpl := partL_len (xs := (List.range n).map fun t => O (t + 1)) (i := k) (j := n) (by omega)); (have hdy : dlyF (fun q => decide (fk ≤ (partL ((List.range n).map fun t => O (t + 1)) k n).getD q 0)) (n - k) 0 = dyN F O n k := (by unfold dyN; refine dlyF_ext _ _ fun j h1 h2 => ?_; rw [partL_get (by omega) (by omega), range_get (by omega), hfk])); (have hlk : lkN F O k = fk - ok := (by unfold lkN; rw [hfk, hok])); (have tkC : True := trivial); rotate_left 1; (have tkZ : True := trivial)))
          | (have _ := tkC; refine W_indexInt (i := k) (v := iv) (xs := (List.range n).map fun t => F (t + 1)) rfl (IntsK.ex (show Ex wr0 _ from (by repeat (first | exact Ex.refl _ | assumption | (refine Ex.of_grown ?_ (by assumption) (by intro k hk; cases hk; omega)) | (refine Ex.trans ?_ (by assumption))))) hiv) rfl (by omega) ?_; intro pq hpq; rw [hie] at hpq)
          | (have _ := tkC; (with_reducible apply W_alloc); exact rfl; intro b12 w12 hb12 he12 hn12; have hlt12 := Bx.lt hb12; have hsz := he12.size; clear tkC; have tkD : True := trivial)
          | (clear tkD; refine W_store (b := b12) (o := 0) (v := .int .i64 fk) rfl hb12 (Nat.zero_lt_succ _) rfl rfl ?_; intro w13 hb12 hg12; have hb12 : Bx w13 b12 [.int .i64 fk] 3 := hb12; have hsz := hg12.size; (have he13 : Ex wr w13 := Ex.of_grown he12 hg12 (by intro k hk; cases hk; omega)); (have htw1 := htw.ex he13); have tkE : True := trivial)
          | (have _ := tkE; refine c_mixX (id := 11) [] [0, 1, 2, 3, 4, 5, 6] 3 #[true, true, true, true, true, true, true, false, false, false] [false, false, false, false, false, false, false, false, false, false] [true, true, true, true, true, true, true, false, false, false] (by kernel_rfl) (by kernel_rfl) (by kernel_rfl) (by dsimp only [sel] <;> exact rfl) (by dsimp only [sel] <;> exact rfl) ?_)
          | (have _ := tkE; (with_reducible apply WM_op); exact rfl; exact rfl; (intro wq he; exact r_load rfl rfl ((Bx.cell (Bx.ex he hb12) _).trans rfl)))
          | (have _ := tkE; (with_reducible apply WM_indexInt); exact rfl; exact IntsK.ex (show Ex wr0 _ from (by repeat (first | exact Ex.refl _ | assumption | (refine Ex.of_grown ?_ (by assumption) (by intro k hk; cases hk; omega)) | (refine Ex.trans ?_ (by assumption))))) hov; exact rfl; omega; (intro pq hpqo; rw [hoe] at hpqo))
          | (have _ := tkE; (with_reducible apply WM_op); exact rfl; exact rfl; (intro wq he; exact r_load rfl rfl (Ex.cell he hpqo)))
          | (have _ := tkE; (with_reducible apply W_bs1); ((conv => lhs; whnf) <;> exact rfl); (first | exact rfl | assumption | exact IntsK.one (by assumption) | exact Prs.one (by assumption) | exact OwnP.one (by assumption) | exact Own.one (by assumption) | exact Row.one (by assumption) | exact OwnR.one (by assumption)); decide; decide; exact rfl; exact rfl; ((simp only [lay, lset, List.replicate_succ, List.replicate_zero]) <;> exact rfl); intro bA wq hbq he hnq; have hltq := Bx.lt hbq; have hsz := he.size; have tkF : True := trivial)
          | (have _ := tkF; clear tkF; clear tkE; refine W_appendF (w0 := wr0) (base := wr0.heap.size) (v := lv) (m := .int .i64 (fk - ok)) (xs := ((List.range k).map (lkN F O)).map (Value.int .i64)) rfl rfl rfl (OwnV.ex (show Ex w13 _ from (by repeat (first | exact Ex.refl _ | assumption | (refine Ex.of_grown ?_ (by assumption) (by intro k hk; cases hk; omega)) | (refine Ex.trans ?_ (by assumption))))) htw1.1) rfl (by repeat (first | assumption | ((with_reducible apply Bx.grownS); assumption; (first | omega | exact Bx.ne (by assumption) (by omega))) | ((with_reducible apply Bx.below); assumption; omega) | ((with_reducible apply Bx.ex); assumption))) (by rw [List.length_map]; omega) (show Ex wr0 _ from (by repeat (first | exact Ex.refl _ | assumption | (refine Ex.of_grown ?_ (by assumption) (by intro k hk; cases hk; omega)) | (refine Ex.trans ?_ (by assumption))))) (Nat.le_refl _) (by omega) ?_; intro lv2 wA hlv2 he2 hkn2 hgqA hbl2; have hlv21 := hlv2.one; (obtain ⟨wx, hxA, hgA, hbA⟩ : ∃ wx, Ex w13 wx ∧ wx.grownBy wA lv.ownBlock ∧ (lv2.ownBlock = lv.ownBlock ∨ lv2.ownBlock = some wx.heap.size) := ⟨_, (show Ex w13 _ from (by repeat (first | exact Ex.refl _ | assumption | (refine Ex.of_grown ?_ (by assumption) (by intro k hk; cases hk; omega)) | (refine Ex.trans ?_ (by assumption))))), hgqA, hbl2⟩); (have htw2 := TwoV.updA (htw1.ex hxA) hgA hlv2 hbA); have hsz := hgA.size; have hszx := hxA.size; (have hb12A := Bx.grown (Bx.ex hxA hb12) hgA (fun e => by have := (hllt _ e.symm).2; omega)); (have hewA : Ex w wA := hew0.trans he2); have tkG : True := trivial)
          | (have _ := tkG; (with_reducible apply W_op); exact rfl; exact rfl; exact r_dropI (i := k) (xs := (List.range n).map fun t => O (t + 1)) rfl (IntsK.ex (show Ex wr0 _ from (by repeat (first | exact Ex.refl _ | assumption | (refine Ex.of_grown ?_ (by assumption) (by intro k hk; cases hk; omega)) | (refine Ex.trans ?_ (by assumption))))) hov) rfl (by omega))
          | (have _ := tkG; (with_reducible apply W_op); exact rfl; exact rfl; exact r_makeFunc rfl rfl)
          | (have _ := tkG; refine W_call (idxGe_any (partV ov k ((List.range n).map fun t => O (t + 1)).length) (partL ((List.range n).map fun t => O (t + 1)) k n) fk b12 _ (by rw [map_len]; exact IntsK.part (IntsK.ex (show Ex wr0 _ from (by repeat (first | exact Ex.refl _ | assumption | (refine Ex.of_grown ?_ (by assumption) (by intro k hk; cases hk; omega)) | (refine Ex.trans ?_ (by assumption))))) hov) (by omega) (by omega)) (Bx.ex (by repeat (first | assumption | exact Ex.refl _ | (refine Ex.trans ?_ (by assumption)) | (refine Ex.of_grown ?_ (by assumption) (by intro k hk; cases hk; omega)))) hb12A)) rfl ?_; rw [hpl, hdy]; rintro vq wI rfl heI; have hsz := heI.size; clear tkG; have tkH : True := trivial)
          | (have _ := tkH; (with_reducible apply W_bs1); ((conv => lhs; whnf) <;> exact rfl); (first | exact rfl | assumption | exact IntsK.one (by assumption) | exact Prs.one (by assumption) | exact OwnP.one (by assumption) | exact Own.one (by assumption) | exact Row.one (by assumption) | exact OwnR.one (by assumption)); decide; decide; exact rfl; exact rfl; ((simp only [lay, lset, List.replicate_succ, List.replicate_zero]) <;> exact rfl); intro bB wq hbq he hnq; have hltq := Bx.lt hbq; have hsz := he.size; clear tkH; have tkI : True := trivial)
          | (clear tkI; refine W_appendF (w0 := wr0) (base := wr0.heap.size) (v := yv) (m := .int .i64 (dyN F O n k)) (xs := ((List.range k).map (dyN F O n)).map (Value.int .i64)) rfl rfl rfl (OwnV.ex (show Ex wA _ from (by repeat (first | exact Ex.refl _ | assumption | (refine Ex.of_grown ?_ (by assumption) (by intro k hk; cases hk; omega)) | (refine Ex.trans ?_ (by assumption))))) htw2.2.1) rfl (by repeat (first | assumption | ((with_reducible apply Bx.grownS); assumption; (first | omega | exact Bx.ne (by assumption) (by omega))) | ((with_reducible apply Bx.below); assumption; omega) | ((with_reducible apply Bx.ex); assumption))) (by rw [List.length_map]; omega) (show Ex wr0 _ from (by repeat (first | exact Ex.refl _ | assumption | (refine Ex.of_grown ?_ (by assumption) (by intro k hk; cases hk; omega)) | (refine Ex.trans ?_ (by assumption))))) (Nat.le_refl _) (by omega) ?_; intro yv2 wB hyv2 he3 hkn3 hgqB hbl3; have hyv21 := hyv2.one; (obtain ⟨wy, hyA, hgB, hbB⟩ : ∃ wy, Ex wA wy ∧ wy.grownBy wB yv.ownBlock ∧ (yv2.ownBlock = yv.ownBlock ∨ yv2.ownBlock = some wy.heap.size) := ⟨_, (show Ex wA _ from (by repeat (first | exact Ex.refl _ | assumption | (refine Ex.of_grown ?_ (by assumption) (by intro k hk; cases hk; omega)) | (refine Ex.trans ?_ (by assumption))))), hgqB, hbl3⟩); (have htw3 := (TwoV.updA (htw2.ex hyA).swap hgB hyv2 hbB).swap); rw [← hlk] at htw3; have hsz := hgB.size; have hszy := hyA.size; (have hewB : Ex w wB := hew0.trans he3))
          | ((with_reducible apply p_ret3); exact rfl; exact rfl; ((conv => lhs; whnf) <;> exact rfl); ((conv => lhs; whnf) <;> exact rfl); ((conv => lhs; whnf) <;> exact rfl); refine ⟨_, rfl, ?_, (by repeat (first | assumption | exact Ex.refl _ | (refine Ex.trans ?_ (by assumption)) | (refine Ex.of_grown ?_ (by assumption) (by intro k hk; cases hk; omega))))⟩)
          | ((first | ((with_reducible apply W_op); exact rfl; exact rfl) | ((with_reducible apply WQ_op); exact rfl; exact rfl; intro wq he) | ((with_reducible apply WM_op); exact rfl; exact rfl; intro wq he) | ((with_reducible apply WB_op); exact rfl; exact rfl; intro wq)); (first | ((with_reducible apply r_move); ((conv => lhs; whnf) <;> exact rfl)) | ((with_reducible apply r_assign); ((conv => lhs; whnf) <;> exact rfl)) | ((with_reducible apply r_load); exact rfl; exact rfl; (first | assumption | exact (Bx.cell (by repeat (first | assumption | ((with_reducible apply Bx.grownS); assumption; (first | omega | exact Bx.ne (by assumption) (by omega))) | ((with_reducible apply Bx.below); assumption; omega) | ((with_reducible apply Bx.ex); assumption))) _).trans rfl | exact Ex.cell (by assumption) (by assumption))) | ((with_reducible apply r_loadA); exact rfl; (first | assumption | exact Bx.cells (by repeat (first | assumption | ((with_reducible apply Bx.grownS); assumption; (first | omega | exact Bx.ne (by assumption) (by omega))) | ((with_reducible apply Bx.below); assumption; omega) | ((with_reducible apply Bx.ex); assumption))) | exact Cells.ex (by assumption) (by assumption)); exact rfl) | ((with_reducible apply r_lss); exact rfl; exact rfl) | ((with_reducible apply r_neq); exact rfl; exact rfl) | ((with_reducible apply r_add); exact rfl; exact rfl; omega) | ((with_reducible apply r_sub); exact rfl; exact rfl; omega) | ((with_reducible apply r_extract); exact rfl; exact rfl)))
          | (refine W_callv (hck _ (by repeat (first | assumption | exact Ex.refl _ | (refine Ex.trans ?_ (by assumption)) | (refine Ex.of_grown ?_ (by assumption) (by intro k hk; cases hk; omega))))) rfl (fun wq he => ?_); have hsz := he.size)
          | (refine W_callv (hcc _ (by repeat (first | assumption | exact Ex.refl _ | (refine Ex.trans ?_ (by assumption)) | (refine Ex.of_grown ?_ (by assumption) (by intro k hk; cases hk; omega))))) rfl (fun wq he => ?_); have hsz := he.size)
          | ((with_reducible (show Exit.then _ _ _ _ _)); refine n_roundG (k + 1) (hJ _ _ _ _ ⟨_, _, _, rfl, by omega, by omega, (by rw [map_next, map_next, List.map_append, List.map_append]; exact htw3), (show Ex wr0 _ from (by repeat (first | exact Ex.refl _ | assumption | (refine Ex.of_grown ?_ (by assumption) (by intro k hk; cases hk; omega)) | (refine Ex.trans ?_ (by assumption))))), (show Ex w _ from (by repeat (first | exact Ex.refl _ | assumption | (refine Ex.of_grown ?_ (by assumption) (by intro k hk; cases hk; omega)) | (refine Ex.trans ?_ (by assumption)))))⟩ ⟨rfl, rfl, rfl, rfl, rfl, rfl, trivial⟩ rfl) (by omega))
          | (refine XT_one (t := 7) (s := false) (listed := #[true, true, true, true, true, true, true, false, false, false]) (listed' := #[true, true, true, true, true, true, true, true, false, false]) (by kernel_rfl) rfl (by kernel_rfl) (by kernel_rfl) ?_)
          | (refine XT_one (t := 8) (s := true) (listed := #[true, true, true, true, true, true, true, true, false, false]) (listed' := #[true, true, true, true, true, true, true, true, true, false]) (by kernel_rfl) rfl (by kernel_rfl) (by kernel_rfl) ?_)
          | (refine XT_one (t := 9) (s := true) (listed := #[true, true, true, true, true, true, true, true, true, false]) (listed' := #[true, true, true, true, true, true, true, true, true, true]) (by kernel_rfl) rfl (by kernel_rfl) (by kernel_rfl) ?_)
          | (with_reducible apply XB_nil)
          | ((with_reducible apply XM_nil); intro wq he; have hsz := he.size)
          | ((with_reducible apply XT_nil); kernel_rfl)
          | (with_reducible apply x_sink)
          | ((with_reducible apply x_keep); (focus ((repeat (first | assumption | exact Ex.refl _ | (refine Ex.trans ?_ (by assumption)) | (refine Ex.of_grown ?_ (by assumption) (by intro k hk; cases hk; omega)))); done)); intro wq he; have hsz := he.size)
          | (with_reducible apply W_nil)
          | ((with_reducible apply W_box); exact rfl; exact rfl; intro bq wq hbq he hnq; have hltq := Bx.lt hbq; have hsz := he.size)
          | (with_reducible apply c_seq)
          | ((with_reducible apply c_region); kernel_rfl)
          | (with_reducible apply n_nq)
          | (with_reducible apply c_block)
          | (with_reducible apply c_skip)
          | (with_reducible apply c_ret)
          | (with_reducible apply c_exit)
          | (with_reducible apply n_then)
          | (with_reducible apply n_block)
          | (with_reducible apply e_then)
          | (with_reducible apply e_block))
      all_goals first
        | exact ⟨lv, yv, 0, rfl, .inr (.inr ⟨rfl, rfl, rfl, (by rw [show n = k by omega]; rw [show n = k by omega] at htw; exact ownI_ints htw.1), (by rw [show n = k by omega]; rw [show n = k by omega] at htw; exact ownI_ints htw.2.1)⟩)⟩
        | trace_state
    · obtain ⟨e, hee⟩ : ∃ e, e = crsErr pls rs ds.length cs.length Dm Cp := ⟨_, rfl⟩
      rw [← hee] at hce hcc ⊢
      refine ret_of_c Try.func29 rfl Try.ntmps29 (Nat.le_of_ble_eq_true rfl) (by dsimp only [ini, Nat.reduceAdd] <;> exact rfl) ?_
      repeat' (first
          | ((with_reducible apply c_cond_dec); exact rfl; intro _; rotate_left 1; intro _; (all_goals (try (exfalso; (focus (omega; done))))))
          | ((with_reducible apply p_ret3); exact rfl; exact rfl; ((conv => lhs; whnf) <;> exact rfl); ((conv => lhs; whnf) <;> exact rfl); ((conv => lhs; whnf) <;> exact rfl); refine ⟨_, rfl, ?_, (by repeat (first | assumption | exact Ex.refl _ | (refine Ex.trans ?_ (by assumption)) | (refine Ex.of_grown ?_ (by assumption) (by intro k hk; cases hk; omega))))⟩)
          | ((first | ((with_reducible apply W_op); exact rfl; exact rfl) | ((with_reducible apply WQ_op); exact rfl; exact rfl; intro wq he) | ((with_reducible apply WM_op); exact rfl; exact rfl; intro wq he) | ((with_reducible apply WB_op); exact rfl; exact rfl; intro wq)); (first | ((with_reducible apply r_move); ((conv => lhs; whnf) <;> exact rfl)) | ((with_reducible apply r_assign); ((conv => lhs; whnf) <;> exact rfl)) | ((with_reducible apply r_loadA); exact rfl; (first | assumption | exact Bx.cells (by repeat (first | assumption | ((with_reducible apply Bx.grownS); assumption; (first | omega | exact Bx.ne (by assumption) (by omega))) | ((with_reducible apply Bx.below); assumption; omega) | ((with_reducible apply Bx.ex); assumption))) | exact Cells.ex (by assumption) (by assumption)); exact rfl) | ((with_reducible apply r_neq); exact rfl; exact rfl)))
          | (refine W_callv (hck _ (by repeat (first | assumption | exact Ex.refl _ | (refine Ex.trans ?_ (by assumption)) | (refine Ex.of_grown ?_ (by assumption) (by intro k hk; cases hk; omega))))) rfl (fun wq he => ?_); have hsz := he.size)
          | (refine W_callv (hcc _ (by repeat (first | assumption | exact Ex.refl _ | (refine Ex.trans ?_ (by assumption)) | (refine Ex.of_grown ?_ (by assumption) (by intro k hk; cases hk; omega))))) rfl (fun wq he => ?_); have hsz := he.size)
          | (with_reducible apply W_nil)
          | ((with_reducible apply W_box); exact rfl; exact rfl; intro bq wq hbq he hnq; have hltq := Bx.lt hbq; have hsz := he.size)
          | (with_reducible apply c_seq)
          | ((with_reducible apply c_region); kernel_rfl)
          | (with_reducible apply n_nq)
          | (with_reducible apply c_skip)
          | (with_reducible apply c_ret)
          | (with_reducible apply n_then)
          | (with_reducible apply r_then))
      all_goals first
        | exact ⟨_, _, _, rfl, .inr (.inl ⟨rfl, hce, rfl, rfl, rfl⟩)⟩
        | trace_state
  · obtain ⟨e, hee⟩ : ∃ e, e = pErr pls rs := ⟨_, rfl⟩
    rw [← hee] at hpe hck ⊢
    refine ret_of_c Try.func29 rfl Try.ntmps29 (Nat.le_of_ble_eq_true rfl) (by dsimp only [ini, Nat.reduceAdd] <;> exact rfl) ?_
    repeat' (first
        | ((with_reducible apply c_cond_dec); exact rfl; intro _; rotate_left 1; intro _; (all_goals (try (exfalso; (focus (omega; done))))))
        | ((with_reducible apply p_ret3); exact rfl; exact rfl; ((conv => lhs; whnf) <;> exact rfl); ((conv => lhs; whnf) <;> exact rfl); ((conv => lhs; whnf) <;> exact rfl); refine ⟨_, rfl, ?_, (by repeat (first | assumption | exact Ex.refl _ | (refine Ex.trans ?_ (by assumption)) | (refine Ex.of_grown ?_ (by assumption) (by intro k hk; cases hk; omega))))⟩)
        | ((first | ((with_reducible apply W_op); exact rfl; exact rfl) | ((with_reducible apply WQ_op); exact rfl; exact rfl; intro wq he) | ((with_reducible apply WM_op); exact rfl; exact rfl; intro wq he) | ((with_reducible apply WB_op); exact rfl; exact rfl; intro wq)); (first | ((with_reducible apply r_move); ((conv => lhs; whnf) <;> exact rfl)) | ((with_reducible apply r_assign); ((conv => lhs; whnf) <;> exact rfl)) | ((with_reducible apply r_loadA); exact rfl; (first | assumption | exact Bx.cells (by repeat (first | assumption | ((with_reducible apply Bx.grownS); assumption; (first | omega | exact Bx.ne (by assumption) (by omega))) | ((with_reducible apply Bx.below); assumption; omega) | ((with_reducible apply Bx.ex); assumption))) | exact Cells.ex (by assumption) (by assumption)); exact rfl) | ((with_reducible apply r_neq); exact rfl; exact rfl)))
        | (refine W_callv (hck _ (by repeat (first | assumption | exact Ex.refl _ | (refine Ex.trans ?_ (by assumption)) | (refine Ex.of_grown ?_ (by assumption) (by intro k hk; cases hk; omega))))) rfl (fun wq he => ?_); have hsz := he.size)
        | (with_reducible apply W_nil)
        | ((with_reducible apply W_box); exact rfl; exact rfl; intro bq wq hbq he hnq; have hltq := Bx.lt hbq; have hsz := he.size)
        | (with_reducible apply c_seq)
        | ((with_reducible apply c_region); kernel_rfl)
        | (with_reducible apply n_nq)
        | (with_reducible apply c_ret)
        | (with_reducible apply n_then)
        | (with_reducible apply r_then))
    all_goals first
      | exact ⟨_, _, _, rfl, .inl ⟨hpe, rfl, rfl, rfl⟩⟩
      | trace_state
end Go.Proofs.Ytlphfobpheefkaa
