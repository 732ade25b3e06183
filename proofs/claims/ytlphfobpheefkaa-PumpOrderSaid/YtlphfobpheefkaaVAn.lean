/-
  (heavy) (rows) What this text proves: Row, Drop and Delay answer as the plain functions say. Conditions: the values read as lists.
-/
import Derived.Test.YtlphfobpheefkaaVAm
import Derived.Test.YtlphfobpheefkaaDr
set_option linter.unusedVariables false
set_option linter.unusedSimpArgs false
namespace Go.Pv
open Go.RowKit Go.Sort
theorem ptErr_inv {pls rs : List (List (Int × Int))} {t : Int} (h : ptErr pls rs t = 0) : pErr pls rs = 0 ∧ 0 ≤ t ∧ t ≤ 200 := by
  unfold ptErr at h
  split at h
  · split at h
    · next a b => exact ⟨a, b⟩
    · omega
  · next a => exact absurd h a
section
variable {P : Program} {l : St} {w : World}
theorem p_ret3 {fn : Func} {t u s : Nat} {v v' v'' : Value} {R : Ending → World → Prop} (hd : l.ds = []) (hr : fn.results = #[.tmp t, .tmp u, .tmp s]) (hv : nth l t = v) (hv' : nth l u = v') (hv'' : nth l s = v'') (h : R (.returned (.tuple #[v, v', v''])) w) : BP P fn R .ret (act l) w := by
  refine bp_nil (.inl rfl) hd ⟨.tuple #[v, v', v''], ?_, h⟩
  have k1 : (act l).tmps[t]?.getD undef = v := by rw [nth_eq]; exact hv
  have k2 : (act l).tmps[u]?.getD undef = v' := by rw [nth_eq]; exact hv'
  have k3 : (act l).tmps[s]?.getD undef = v'' := by rw [nth_eq]; exact hv''
  simp [results, hr, k1, k2, k3]
end
/-- The greatest lack of the first numbers of ticks, and where it is first. -/
def glTo (D R : List Int) : Nat → Int × Int
  | 0 => (0, 0)
  | k + 1 => if (glTo D R k).1 < D.getD k 0 - R.getD k 0 then (D.getD k 0 - R.getD k 0, (k : Int)) else glTo D R k
theorem gl_yes {D R : List Int} {k : Nat} (h : (glTo D R k).1 < D.getD k 0 - R.getD k 0) : glTo D R (k + 1) = (D.getD k 0 - R.getD k 0, (k : Int)) := by simp only [glTo]; exact if_pos h
theorem gl_no {D R : List Int} {k : Nat} (h : ¬ (glTo D R k).1 < D.getD k 0 - R.getD k 0) : glTo D R (k + 1) = glTo D R k := by simp only [glTo]; exact if_neg h
/-- The greatest lack of a plant in so many ticks, and where it is first. -/
def dropL (pls rs : List (List (Int × Int))) (n : Nat) : Int × Int := glTo ((List.range (n + 1)).map (dmN pls)) ((List.range (n + 1)).map (rwTo rs rs.length)) (n + 1)
theorem range_get {f : Nat → Int} {N j : Nat} (h : j < N) : ((List.range N).map f).getD j 0 = f j := by simp [h]
/-- The first delay from d on that is enough for so many ticks, or 201. -/
def dlIn (R : List Int) (m : Int) (n : Nat) : Nat → Nat → Nat
  | 0, d => d
  | f + 1, d => if d ≤ 200 ∧ R.getD (n + d) 0 < m then dlIn R m n f (d + 1) else d
def dlTo (D R : List Int) : Nat → Nat
  | 0 => 0
  | k + 1 => dlIn R (D.getD k 0) k 202 (dlTo D R k)
theorem dlIn_go {R : List Int} {m : Int} {n f d : Nat} (h : d ≤ 200 ∧ R.getD (n + d) 0 < m) : dlIn R m n (f + 1) d = dlIn R m n f (d + 1) := by simp only [dlIn]; exact if_pos h
theorem dlIn_stop {R : List Int} {m : Int} {n f d : Nat} (h : ¬ (d ≤ 200 ∧ R.getD (n + d) 0 < m)) : dlIn R m n f d = d := by
  cases f with
  | zero => rfl
  | succ f => simp only [dlIn]; exact if_neg h
theorem dlIn_bd {R : List Int} {m : Int} {n : Nat} : ∀ (f d : Nat), d ≤ 201 → d ≤ dlIn R m n f d ∧ dlIn R m n f d ≤ 201
  | 0, d, h => ⟨Nat.le_refl _, h⟩
  | f + 1, d, h => by
    by_cases hc : d ≤ 200 ∧ R.getD (n + d) 0 < m
    · rw [dlIn_go hc]
      have := dlIn_bd (R := R) (m := m) (n := n) f (d + 1) (by omega)
      omega
    · rw [dlIn_stop hc]; omega
theorem dlTo_bd (D R : List Int) : ∀ k, dlTo D R k ≤ 201
  | 0 => by simp [dlTo]
  | k + 1 => (dlIn_bd 202 _ (dlTo_bd D R k)).2
/-- The greatest delay of a plant in so many ticks, or 201; and the error of Delay. -/
def delayL (pls rs : List (List (Int × Int))) (n : Nat) : Nat := dlTo ((List.range (n + 1)).map (dmN pls)) ((List.range (n + 200 + 1)).map (rwTo rs rs.length)) (n + 1)
def dlErr (pls rs : List (List (Int × Int))) (t : Int) : Int := if ptErr pls rs t = 0 then (if 200 < delayL pls rs t.toNat then 11 else 0) else ptErr pls rs t
end Go.Pv
namespace Go.Proofs.Ytlphfobpheefkaa
open Go.Pv Go.RowKit Go.Sort
set_option maxHeartbeats 8000000
set_option maxRecDepth 20000
theorem glack_any (mv rv : Value) (D R : List Int) (w : World) (h : Ints w mv D) (h2 : Ints w rv R) (hl : D.length ≤ R.length) (hl2 : R.length ≤ 1000) (hD : ∀ j, j < D.length → 0 ≤ D.getD j 0 ∧ D.getD j 0 ≤ 4503599627370496) (hR : ∀ j, j < R.length → 0 ≤ R.getD j 0 ∧ R.getD j 0 ≤ 4503599627370496) :
    Ret Try.prog 56 [mv, rv] w fun r _ => r = .tuple #[.int .i64 (glTo D R D.length).1, .int .i64 (glTo D R D.length).2] := by
  have hv1 := h.one
  have hv2 := h2.one
  have tkA : True := trivial
  refine ret_of_c Try.func56 rfl Try.ntmps56 (Nat.le_of_ble_eq_true rfl) (by dsimp only [ini, Nat.reduceAdd] <;> exact rfl) ?_
  repeat' (first
      | (clear tkB; (by_cases hkn : k < D.length; (have hdk := hD k hkn); (have hrk := hR k (by omega)); by_cases hlt : (glTo D R k).1 < D.getD k 0 - R.getD k 0); all_goals (have tkC : True := trivial))
      | ((with_reducible apply W_op); exact rfl; exact rfl; exact r_lenInts rfl (IntsK.ex (show Ex w _ from (by repeat (first | exact Ex.refl _ | assumption | (refine Ex.of_grown ?_ (by assumption) (by intro k hk; cases hk; omega)) | (refine Ex.trans ?_ (by assumption))))) h))
      | ((with_reducible apply c_cond_dec); exact rfl; intro _; rotate_left 1; intro _; (all_goals (try (exfalso; (focus (omega; done))))))
      | (have _ := tkC; refine W_indexInt (i := k) (v := mv) (xs := D) rfl (IntsK.ex (show Ex w _ from (by repeat (first | exact Ex.refl _ | assumption | (refine Ex.of_grown ?_ (by assumption) (by intro k hk; cases hk; omega)) | (refine Ex.trans ?_ (by assumption))))) h) rfl (by omega) ?_; intro pq hpq)
      | (have _ := tkC; refine W_indexInt (i := k) (v := rv) (xs := R) rfl (IntsK.ex (show Ex w _ from (by repeat (first | exact Ex.refl _ | assumption | (refine Ex.of_grown ?_ (by assumption) (by intro k hk; cases hk; omega)) | (refine Ex.trans ?_ (by assumption))))) h2) rfl (by omega) ?_; intro pq2 hpq2)
      | ((with_reducible (show C _ _ _ _ _ _)); clear tkA; refine c_loopG (fun (k : Nat) ps wr => ∃ a : Int, ∃ b : Int, ∃ i : Int, ps = [(1, rv), (4, .int .i64 a), (5, .int .i64 b), (9, mv), (10, .int .i64 (D.length : Int)), (11, .int .i64 i)] ∧ a = (glTo D R k).1 ∧ b = (glTo D R k).2 ∧ i = k ∧ k ≤ D.length ∧ Ex w wr) (fun k => D.length - k) 0 _ ⟨_, _, _, rfl, rfl, rfl, rfl, Nat.zero_le _, (by repeat (first | assumption | exact Ex.refl _ | (refine Ex.trans ?_ (by assumption)) | (refine Ex.of_grown ?_ (by assumption) (by intro k hk; cases hk; omega))))⟩ ⟨rfl, rfl, rfl, rfl, rfl, rfl, trivial⟩ (by ((conv => lhs; whnf) <;> exact rfl)) (by ((conv => lhs; whnf) <;> exact rfl)) ?_; rintro J hJ k u ps wr ⟨a, b, i, rfl, rfl, rfl, rfl, hk, he⟩; have hsz := he.size; have tkB : True := trivial)
      | ((first | ((with_reducible apply W_op); exact rfl; exact rfl)); (first | ((with_reducible apply r_move); ((conv => lhs; whnf) <;> exact rfl)) | ((with_reducible apply r_assign); ((conv => lhs; whnf) <;> exact rfl)) | ((with_reducible apply r_load); exact rfl; exact rfl; (first | assumption | exact (Bx.cell (by repeat (first | assumption | ((with_reducible apply Bx.grownS); assumption; (first | omega | exact Bx.ne (by assumption) (by omega))) | ((with_reducible apply Bx.below); assumption; omega) | ((with_reducible apply Bx.ex); assumption))) _).trans rfl | exact Ex.cell (by assumption) (by assumption))) | ((with_reducible apply r_lss); exact rfl; exact rfl) | ((with_reducible apply r_gtr); exact rfl; exact rfl) | ((with_reducible apply r_add); exact rfl; exact rfl; omega) | ((with_reducible apply r_sub); exact rfl; exact rfl; omega)))
      | ((with_reducible (show Exit.then _ _ _ _ _)); refine n_roundG (k + 1) (hJ _ _ _ _ ⟨_, _, _, rfl, (by rw [gl_yes hlt]), (by rw [gl_yes hlt]), by omega, by omega, (by repeat (first | assumption | exact Ex.refl _ | (refine Ex.trans ?_ (by assumption)) | (refine Ex.of_grown ?_ (by assumption) (by intro k hk; cases hk; omega))))⟩ ⟨rfl, rfl, rfl, rfl, rfl, rfl, trivial⟩ rfl) (by omega))
      | ((with_reducible (show Exit.then _ _ _ _ _)); refine n_roundG (k + 1) (hJ _ _ _ _ ⟨_, _, _, rfl, (by rw [gl_no hlt]), (by rw [gl_no hlt]), by omega, by omega, (by repeat (first | assumption | exact Ex.refl _ | (refine Ex.trans ?_ (by assumption)) | (refine Ex.of_grown ?_ (by assumption) (by intro k hk; cases hk; omega))))⟩ ⟨rfl, rfl, rfl, rfl, rfl, rfl, trivial⟩ rfl) (by omega))
      | (with_reducible apply W_nil)
      | (with_reducible apply c_seq)
      | ((with_reducible apply c_region); kernel_rfl)
      | (with_reducible apply n_nq)
      | (with_reducible apply c_block)
      | (with_reducible apply c_skip)
      | (with_reducible apply c_ret)
      | (with_reducible apply c_exit)
      | (with_reducible apply n_then)
      | (with_reducible apply n_block)
      | (with_reducible apply e_then)
      | (with_reducible apply e_block)
      | ((with_reducible apply p_ret2); exact rfl; exact rfl; ((conv => lhs; whnf) <;> exact rfl); ((conv => lhs; whnf) <;> exact rfl); refine ⟨_, rfl, ?_, (by repeat (first | assumption | exact Ex.refl _ | (refine Ex.trans ?_ (by assumption)) | (refine Ex.of_grown ?_ (by assumption) (by intro k hk; cases hk; omega))))⟩))
  all_goals first
    | (rw [show D.length = k by omega]; done)
    | (rw [show D.length = k by omega]; rfl)
    | trace_state
theorem gdelay_any (mv rv : Value) (D R : List Int) (w : World) (h : Ints w mv D) (h2 : Ints w rv R) (hl : D.length + 200 ≤ R.length) (hl2 : R.length ≤ 1000) : Ret Try.prog 59 [mv, rv] w fun r _ => r = .int .i64 (dlTo D R D.length : Int) := by
  have hv1 := h.one
  have hv2 := h2.one
  have tkA : True := trivial
  refine ret_of_c Try.func59 rfl Try.ntmps59 (Nat.le_of_ble_eq_true rfl) (by dsimp only [ini, Nat.reduceAdd] <;> exact rfl) ?_
  repeat' (first
      | (clear tkB; (have hdb := dlTo_bd D R k); (by_cases hkn : k < D.length); all_goals (have tkC : True := trivial))
      | ((with_reducible apply W_op); exact rfl; exact rfl; exact r_lenInts rfl (IntsK.ex (show Ex w _ from (by repeat (first | exact Ex.refl _ | assumption | (refine Ex.of_grown ?_ (by assumption) (by intro k hk; cases hk; omega)) | (refine Ex.trans ?_ (by assumption))))) h))
      | ((with_reducible apply c_cond_dec); exact rfl; intro _; rotate_left 1; intro _; (all_goals (try (exfalso; (focus (omega; done))))))
      | ((with_reducible apply W_split); exact rfl; exact rfl; intro _; rotate_left 1; intro hsx; (all_goals (try (exfalso; (focus (first | exact hsx rfl | omega; done))))))
      | (have _ := tkC; refine W_indexInt (i := k) (v := mv) (xs := D) rfl (IntsK.ex (show Ex w _ from (by repeat (first | exact Ex.refl _ | assumption | (refine Ex.of_grown ?_ (by assumption) (by intro k hk; cases hk; omega)) | (refine Ex.trans ?_ (by assumption))))) h) rfl (by omega) ?_; intro pq hpq; have tkD : True := trivial)
      | ((with_reducible (show C _ _ _ _ _ _)); clear tkA; refine c_loopG (fun (k : Nat) ps wr => ∃ d : Int, ∃ i : Int, ps = [(1, rv), (5, .int .i64 d), (8, mv), (9, .int .i64 (D.length : Int)), (10, .int .i64 i)] ∧ d = (dlTo D R k : Int) ∧ i = k ∧ k ≤ D.length ∧ Ex w wr) (fun k => D.length - k) 0 _ ⟨_, _, rfl, rfl, rfl, Nat.zero_le _, (by repeat (first | assumption | exact Ex.refl _ | (refine Ex.trans ?_ (by assumption)) | (refine Ex.of_grown ?_ (by assumption) (by intro k hk; cases hk; omega))))⟩ ⟨rfl, rfl, rfl, rfl, rfl, trivial⟩ (by ((conv => lhs; whnf) <;> exact rfl)) (by ((conv => lhs; whnf) <;> exact rfl)) ?_; rintro J hJ k u ps wr ⟨d, i, rfl, rfl, rfl, hk, he⟩; have hsz := he.size; have tkB : True := trivial)
      | (clear tkD; clear tkC; (obtain ⟨d0, hd0⟩ : ∃ q, dlTo D R k = q := ⟨_, rfl⟩); rw [hd0] at hdb; (have tkE : True := trivial); clear tkE; refine c_loopG (fun (j : Nat) ps wr => ∃ d : Int, ps = [(1, rv), (5, .int .i64 d), (6, .int .i64 (k : Int)), (7, .int .i64 (D.getD k 0)), (8, mv), (9, .int .i64 (D.length : Int)), (10, .int .i64 (k : Int))] ∧ d = ((d0 + j : Nat) : Int) ∧ d0 + j ≤ 201 ∧ dlIn R (D.getD k 0) k 202 d0 = dlIn R (D.getD k 0) k (202 - j) (d0 + j) ∧ Ex w wr) (fun j => 201 - j) 0 _ ⟨_, rfl, (by rw [hd0]; rfl), (by omega), rfl, (by repeat (first | assumption | exact Ex.refl _ | (refine Ex.trans ?_ (by assumption)) | (refine Ex.of_grown ?_ (by assumption) (by intro k hk; cases hk; omega))))⟩ ⟨rfl, rfl, rfl, rfl, rfl, rfl, rfl, trivial⟩ (by ((conv => lhs; whnf) <;> exact rfl)) (by ((conv => lhs; whnf) <;> exact rfl)) ?_; rintro K2 hK2 j u ps wr ⟨d, rfl, rfl, hdj, hdl, he⟩; have hsz := he.size; have tkF : True := trivial)
      | (clear tkF; (by_cases hgo : d0 + j ≤ 200 ∧ R.getD (k + (d0 + j)) 0 < D.getD k 0); all_goals (have tkG : True := trivial))
      | (have _ := tkG; refine W_indexInt (i := k + (d0 + j)) (v := rv) (xs := R) rfl (IntsK.ex (show Ex w _ from (by repeat (first | exact Ex.refl _ | assumption | (refine Ex.of_grown ?_ (by assumption) (by intro k hk; cases hk; omega)) | (refine Ex.trans ?_ (by assumption))))) h2) (Eq.trans (b := Value.int .i64 _) rfl (congrArg _ (by omega))) (by omega) ?_; intro pq hpq)
      | ((first | ((with_reducible apply W_op); exact rfl; exact rfl)); (first | ((with_reducible apply r_move); ((conv => lhs; whnf) <;> exact rfl)) | ((with_reducible apply r_assign); ((conv => lhs; whnf) <;> exact rfl)) | ((with_reducible apply r_load); exact rfl; exact rfl; (first | assumption | exact (Bx.cell (by repeat (first | assumption | ((with_reducible apply Bx.grownS); assumption; (first | omega | exact Bx.ne (by assumption) (by omega))) | ((with_reducible apply Bx.below); assumption; omega) | ((with_reducible apply Bx.ex); assumption))) _).trans rfl | exact Ex.cell (by assumption) (by assumption))) | ((with_reducible apply r_lss); exact rfl; exact rfl) | ((with_reducible apply r_leq); exact rfl; exact rfl) | ((with_reducible apply r_add); exact rfl; exact rfl; omega) | ((with_reducible apply r_pick_true); exact rfl; ((conv => lhs; whnf) <;> exact rfl)) | ((with_reducible apply r_pick_false); exact rfl; ((conv => lhs; whnf) <;> exact rfl))))
      | ((with_reducible (show Exit.then _ _ _ _ _)); refine n_roundG (k + 1) (hJ _ _ _ _ ⟨_, _, rfl, (by simp only [dlTo]; rw [hd0, hdl, dlIn_stop hgo]), by omega, by omega, (by repeat (first | assumption | exact Ex.refl _ | (refine Ex.trans ?_ (by assumption)) | (refine Ex.of_grown ?_ (by assumption) (by intro k hk; cases hk; omega))))⟩ ⟨rfl, rfl, rfl, rfl, rfl, trivial⟩ rfl) (by omega))
      | ((with_reducible (show Exit.then _ _ _ _ _)); refine n_roundG (j + 1) (hK2 _ _ _ _ ⟨_, rfl, by omega, by omega, (by rw [hdl, show 202 - j = (202 - (j + 1)) + 1 by omega, dlIn_go hgo]; rfl), (by repeat (first | assumption | exact Ex.refl _ | (refine Ex.trans ?_ (by assumption)) | (refine Ex.of_grown ?_ (by assumption) (by intro k hk; cases hk; omega))))⟩ ⟨rfl, rfl, rfl, rfl, rfl, rfl, rfl, trivial⟩ rfl) (by omega))
      | (with_reducible apply W_nil)
      | ((with_reducible apply W_pass); exact rfl; exact rfl; exact rfl; exact rfl; exact rfl)
      | ((with_reducible apply W_take); exact rfl; exact rfl; exact rfl)
      | (with_reducible apply c_seq)
      | ((with_reducible apply c_region); kernel_rfl)
      | (with_reducible apply n_nq)
      | (with_reducible apply c_block)
      | (with_reducible apply c_skip)
      | (with_reducible apply c_ret)
      | (with_reducible apply c_exit)
      | ((with_reducible apply c_cond_false); exact rfl)
      | (with_reducible apply n_then)
      | (with_reducible apply n_block)
      | (with_reducible apply e_then)
      | (with_reducible apply e_block)
      | ((with_reducible apply p_ret1); exact rfl; exact rfl; ((conv => lhs; whnf) <;> exact rfl); refine ⟨_, rfl, ?_, (by repeat (first | assumption | exact Ex.refl _ | (refine Ex.trans ?_ (by assumption)) | (refine Ex.of_grown ?_ (by assumption) (by intro k hk; cases hk; omega))))⟩))
  all_goals first
    | (rw [show D.length = k by omega]; done)
    | (rw [show D.length = k by omega]; rfl)
    | trace_state
/-- What is answered of a plant: the row, the greatest lack and where it is first, the delay. -/
theorem Row_any (pv rv : Value) (us vs : List Value) (pls rs : List (List (Int × Int))) (t : Int) (w : World) (h : Vals w pv us) (hx : BLs w us pls) (h2 : Vals w rv vs) (hx2 : BLs w vs rs) : Ret Try.prog 35 [.agg #[pv, rv], .int .i64 t] w fun r _ => r = .tuple #[.int .i64 (if ptErr pls rs t = 0 then rwTo rs rs.length t.toNat else 0), .int .i64 (ptErr pls rs t)] := by
  have hp1 := h.one
  have hr1 := h2.one
  have hck := fun w2 (e : Ex w w2) => checkPlant_any pv rv us vs pls rs t w2 (Vals.ex e h) (BLs.ex e hx) (Vals.ex e h2) (BLs.ex e hx2)
  by_cases hc : ptErr pls rs t = 0
  · obtain ⟨hpe, h0, h200⟩ := ptErr_inv hc
    obtain ⟨hl1, hl2, hb1, hb2⟩ := pErr_inv hpe
    obtain ⟨n, hn⟩ : ∃ n : Nat, t = n := ⟨t.toNat, by omega⟩
    subst hn
    rw [hc] at hck ⊢
    rw [if_pos rfl, Int.toNat_natCast]
    have hro := fun w2 (e : Ex w w2) => rowOf_any pv rv vs rs n w2 (Vals.ex e h2) (BLs.ex e hx2) hp1 hb2 (by omega) (by omega)
    refine ret_of_c Try.func35 rfl Try.ntmps35 (Nat.le_of_ble_eq_true rfl) (by dsimp only [ini, Nat.reduceAdd] <;> exact rfl) ?_
    repeat' (first
        | ((with_reducible apply c_cond_dec); exact rfl; intro _; rotate_left 1; intro _; (all_goals (try (exfalso; (focus (omega; done))))))
        | ((with_reducible apply W_op); exact rfl; exact rfl; exact r_indexBx4 (i := n) rfl rfl (by omega))
        | ((with_reducible apply W_op); exact rfl; exact rfl; exact r_field (off := 0) (vs := [.slice (some ⟨ga, 0, none⟩) (n + 1) (n + 1), sv]) (by kernel_rfl) rfl rfl)
        | ((with_reducible apply W_op); exact rfl; exact rfl; exact r_load rfl rfl ((Bx.cell hga _).trans (map_at (by omega))))
        | ((first | ((with_reducible apply W_op); exact rfl; exact rfl)); (first | ((with_reducible apply r_move); ((conv => lhs; whnf) <;> exact rfl)) | ((with_reducible apply r_assign); ((conv => lhs; whnf) <;> exact rfl)) | ((with_reducible apply r_loadA); exact rfl; (first | assumption | exact Bx.cells (by repeat (first | assumption | ((with_reducible apply Bx.grownS); assumption; (first | omega | exact Bx.ne (by assumption) (by omega))) | ((with_reducible apply Bx.below); assumption; omega) | ((with_reducible apply Bx.ex); assumption))) | exact Cells.ex (by assumption) (by assumption)); exact rfl) | ((with_reducible apply r_neq); exact rfl; exact rfl)))
        | (refine W_callv (hck _ (by repeat (first | assumption | exact Ex.refl _ | (refine Ex.trans ?_ (by assumption)) | (refine Ex.of_grown ?_ (by assumption) (by intro k hk; cases hk; omega))))) rfl (fun wq he => ?_); have hsz := he.size)
        | (refine W_call (hro _ (by repeat (first | assumption | exact Ex.refl _ | (refine Ex.trans ?_ (by assumption)) | (refine Ex.of_grown ?_ (by assumption) (by intro k hk; cases hk; omega))))) rfl ?_; rintro vq wq ⟨ga, sv, us2, B, rfl, hga, hga0, hsv, hsh⟩ he; have hsz := he.size; have hsv1 := hsv.one)
        | (with_reducible apply W_nil)
        | ((with_reducible apply W_box); exact rfl; exact rfl; intro bq wq hbq he hnq; have hltq := Bx.lt hbq; have hsz := he.size)
        | (with_reducible apply c_seq)
        | ((with_reducible apply c_region); kernel_rfl)
        | (with_reducible apply n_nq)
        | (with_reducible apply c_skip)
        | (with_reducible apply c_ret)
        | (with_reducible apply n_then)
        | ((with_reducible apply p_ret2); exact rfl; exact rfl; ((conv => lhs; whnf) <;> exact rfl); ((conv => lhs; whnf) <;> exact rfl); refine ⟨_, rfl, ?_, (by repeat (first | assumption | exact Ex.refl _ | (refine Ex.trans ?_ (by assumption)) | (refine Ex.of_grown ?_ (by assumption) (by intro k hk; cases hk; omega))))⟩))
    all_goals first | rfl | trace_state
  · rw [if_neg hc]
    obtain ⟨e, hee⟩ : ∃ e, e = ptErr pls rs t := ⟨_, rfl⟩
    rw [← hee] at hck hc ⊢
    refine ret_of_c Try.func35 rfl Try.ntmps35 (Nat.le_of_ble_eq_true rfl) (by dsimp only [ini, Nat.reduceAdd] <;> exact rfl) ?_
    repeat' (first
        | ((with_reducible apply c_cond_dec); exact rfl; intro _; rotate_left 1; intro _; (all_goals (try (exfalso; (focus (omega; done))))))
        | ((first | ((with_reducible apply W_op); exact rfl; exact rfl)); (first | ((with_reducible apply r_move); ((conv => lhs; whnf) <;> exact rfl)) | ((with_reducible apply r_assign); ((conv => lhs; whnf) <;> exact rfl)) | ((with_reducible apply r_loadA); exact rfl; (first | assumption | exact Bx.cells (by repeat (first | assumption | ((with_reducible apply Bx.grownS); assumption; (first | omega | exact Bx.ne (by assumption) (by omega))) | ((with_reducible apply Bx.below); assumption; omega) | ((with_reducible apply Bx.ex); assumption))) | exact Cells.ex (by assumption) (by assumption)); exact rfl) | ((with_reducible apply r_neq); exact rfl; exact rfl)))
        | (refine W_callv (hck _ (by repeat (first | assumption | exact Ex.refl _ | (refine Ex.trans ?_ (by assumption)) | (refine Ex.of_grown ?_ (by assumption) (by intro k hk; cases hk; omega))))) rfl (fun wq he => ?_); have hsz := he.size)
        | (with_reducible apply W_nil)
        | ((with_reducible apply W_box); exact rfl; exact rfl; intro bq wq hbq he hnq; have hltq := Bx.lt hbq; have hsz := he.size)
        | (with_reducible apply c_seq)
        | ((with_reducible apply c_region); kernel_rfl)
        | (with_reducible apply n_nq)
        | (with_reducible apply c_ret)
        | (with_reducible apply n_then)
        | (with_reducible apply r_then)
        | ((with_reducible apply p_ret2); exact rfl; exact rfl; ((conv => lhs; whnf) <;> exact rfl); ((conv => lhs; whnf) <;> exact rfl); refine ⟨_, rfl, ?_, (by repeat (first | assumption | exact Ex.refl _ | (refine Ex.trans ?_ (by assumption)) | (refine Ex.of_grown ?_ (by assumption) (by intro k hk; cases hk; omega))))⟩))
    all_goals first | rfl | trace_state
theorem Drop_any (pv rv : Value) (us vs : List Value) (pls rs : List (List (Int × Int))) (t : Int) (w : World) (h : Vals w pv us) (hx : BLs w us pls) (h2 : Vals w rv vs) (hx2 : BLs w vs rs) : Ret Try.prog 31 [.agg #[pv, rv], .int .i64 t] w fun r _ => r = .tuple #[.int .i64 (if ptErr pls rs t = 0 then (dropL pls rs t.toNat).1 else 0), .int .i64 (if ptErr pls rs t = 0 then (dropL pls rs t.toNat).2 else 0), .int .i64 (ptErr pls rs t)] := by
  have hp1 := h.one
  have hr1 := h2.one
  have hck := fun w2 (e : Ex w w2) => checkPlant_any pv rv us vs pls rs t w2 (Vals.ex e h) (BLs.ex e hx) (Vals.ex e h2) (BLs.ex e hx2)
  by_cases hc : ptErr pls rs t = 0
  · obtain ⟨hpe, h0, h200⟩ := ptErr_inv hc
    obtain ⟨hl1, hl2, hb1, hb2⟩ := pErr_inv hpe
    obtain ⟨n, hn⟩ : ∃ n : Nat, t = n := ⟨t.toNat, by omega⟩
    subst hn
    rw [hc] at hck ⊢
    rw [if_pos rfl, if_pos rfl, Int.toNat_natCast]
    have hmo := fun w2 (e : Ex w w2) => mosts_any pv rv us pls n w2 (Vals.ex e h) (BLs.ex e hx) hr1 hb1 (by omega) (by omega)
    have hro := fun w2 (e : Ex w w2) => rowOf_any pv rv vs rs n w2 (Vals.ex e h2) (BLs.ex e hx2) hp1 hb2 (by omega) (by omega)
    have hgl := fun a b w2 (ha : Ints w2 a ((List.range (n + 1)).map (dmN pls))) (hb : Ints w2 b ((List.range (n + 1)).map (rwTo rs rs.length))) => glack_any a b _ _ w2 ha hb (by simp) (by simp; omega) (fun j hj => by
      have hj2 : j < n + 1 := by simpa using hj
      rw [range_get hj2]
      have := dmTo_small hb1 (by omega) (k := pls.length) (j := j) (Nat.le_refl _) (by omega)
      unfold dmN; omega) (fun j hj => by
      have hj2 : j < n + 1 := by simpa using hj
      rw [range_get hj2]
      exact rw_bd hb2 _ (Nat.le_refl _) j)
    rw [List.length_map, List.length_range] at hgl
    obtain ⟨q, hq⟩ : ∃ q, dropL pls rs n = q := ⟨_, rfl⟩
    have hgl2 := fun a b w2 ha hb => (show Ret Try.prog 56 [a, b] w2 fun r _ => r = .tuple #[.int .i64 q.1, .int .i64 q.2] by rw [← hq]; exact hgl a b w2 ha hb)
    rw [hq]
    clear hgl
    refine ret_of_c Try.func31 rfl Try.ntmps31 (Nat.le_of_ble_eq_true rfl) (by dsimp only [ini, Nat.reduceAdd] <;> exact rfl) ?_
    repeat' (first
        | ((with_reducible apply c_cond_dec); exact rfl; intro _; rotate_left 1; intro _; (all_goals (try (exfalso; (focus (omega; done))))))
        | (refine c_mixX (id := 4) [] [0, 1, 3, 4] 9 #[true, true, false, true, true, false, false, false, false, false, false, false, false] [false, false, false, false, false, false, false, false, false, false, false, false, false] [true, true, false, true, true, false, false, false, false, false, false, false, false] (by kernel_rfl) (by kernel_rfl) (by kernel_rfl) (by dsimp only [sel] <;> exact rfl) (by dsimp only [sel] <;> exact rfl) ?_)
        | ((with_reducible apply W_op); exact rfl; exact rfl; exact r_field (off := 0) (vs := [.slice (some ⟨ga, 0, none⟩) (n + 1) (n + 1), sv]) (by kernel_rfl) rfl rfl)
        | ((with_reducible apply p_ret3); exact rfl; exact rfl; ((conv => lhs; whnf) <;> exact rfl); ((conv => lhs; whnf) <;> exact rfl); ((conv => lhs; whnf) <;> exact rfl); refine ⟨_, rfl, ?_, (by repeat (first | assumption | exact Ex.refl _ | (refine Ex.trans ?_ (by assumption)) | (refine Ex.of_grown ?_ (by assumption) (by intro k hk; cases hk; omega))))⟩)
        | ((first | ((with_reducible apply W_op); exact rfl; exact rfl) | ((with_reducible apply WQ_op); exact rfl; exact rfl; intro wq he) | ((with_reducible apply WM_op); exact rfl; exact rfl; intro wq he) | ((with_reducible apply WB_op); exact rfl; exact rfl; intro wq)); (first | ((with_reducible apply r_move); ((conv => lhs; whnf) <;> exact rfl)) | ((with_reducible apply r_assign); ((conv => lhs; whnf) <;> exact rfl)) | ((with_reducible apply r_loadA); exact rfl; (first | assumption | exact Bx.cells (by repeat (first | assumption | ((with_reducible apply Bx.grownS); assumption; (first | omega | exact Bx.ne (by assumption) (by omega))) | ((with_reducible apply Bx.below); assumption; omega) | ((with_reducible apply Bx.ex); assumption))) | exact Cells.ex (by assumption) (by assumption)); exact rfl) | ((with_reducible apply r_neq); exact rfl; exact rfl) | ((with_reducible apply r_extract); exact rfl; exact rfl)))
        | (refine W_callv (hck _ (by repeat (first | assumption | exact Ex.refl _ | (refine Ex.trans ?_ (by assumption)) | (refine Ex.of_grown ?_ (by assumption) (by intro k hk; cases hk; omega))))) rfl (fun wq he => ?_); have hsz := he.size)
        | (refine XT_one (t := 2) (s := false) (listed := #[true, true, false, true, true, false, false, false, false, false, false, false, false]) (listed' := #[true, true, true, true, true, false, false, false, false, false, false, false, false]) (by kernel_rfl) rfl (by kernel_rfl) (by kernel_rfl) ?_)
        | (refine XT_one (t := 5) (s := true) (listed := #[true, true, true, true, true, false, false, false, false, false, false, false, false]) (listed' := #[true, true, true, true, true, true, false, false, false, false, false, false, false]) (by kernel_rfl) rfl (by kernel_rfl) (by kernel_rfl) ?_)
        | (refine XT_one (t := 6) (s := true) (listed := #[true, true, true, true, true, true, false, false, false, false, false, false, false]) (listed' := #[true, true, true, true, true, true, true, false, false, false, false, false, false]) (by kernel_rfl) rfl (by kernel_rfl) (by kernel_rfl) ?_)
        | (refine XT_one (t := 7) (s := true) (listed := #[true, true, true, true, true, true, true, false, false, false, false, false, false]) (listed' := #[true, true, true, true, true, true, true, true, false, false, false, false, false]) (by kernel_rfl) rfl (by kernel_rfl) (by kernel_rfl) ?_)
        | (refine XT_one (t := 8) (s := true) (listed := #[true, true, true, true, true, true, true, true, false, false, false, false, false]) (listed' := #[true, true, true, true, true, true, true, true, true, false, false, false, false]) (by kernel_rfl) rfl (by kernel_rfl) (by kernel_rfl) ?_)
        | (refine XT_two (t := 9) (t' := 10) (s := true) (s' := true) (listed := #[true, true, true, true, true, true, true, true, true, false, false, false, false]) (l1 := #[true, true, true, true, true, true, true, true, true, true, false, false, false]) (l1' := #[true, true, true, true, true, true, true, true, true, false, true, false, false]) (by kernel_rfl) rfl rfl (by kernel_rfl) (by kernel_rfl) (by kernel_rfl) (by kernel_rfl) ?_ ?_)
        | (refine XT_two (t := 10) (t' := 11) (s := true) (s' := true) (listed := #[true, true, true, true, true, true, true, true, true, true, false, false, false]) (l1 := #[true, true, true, true, true, true, true, true, true, true, true, false, false]) (l1' := #[true, true, true, true, true, true, true, true, true, true, false, true, false]) (by kernel_rfl) rfl rfl (by kernel_rfl) (by kernel_rfl) (by kernel_rfl) (by kernel_rfl) ?_ ?_)
        | (refine XT_one (t := 9) (s := true) (listed := #[true, true, true, true, true, true, true, true, true, false, true, false, false]) (listed' := #[true, true, true, true, true, true, true, true, true, true, true, false, false]) (by kernel_rfl) rfl (by kernel_rfl) (by kernel_rfl) ?_)
        | (refine XT_one (t := 11) (s := true) (listed := #[true, true, true, true, true, true, true, true, true, true, true, false, false]) (listed' := #[true, true, true, true, true, true, true, true, true, true, true, true, false]) (by kernel_rfl) rfl (by kernel_rfl) (by kernel_rfl) ?_)
        | (refine XT_one (t := 10) (s := true) (listed := #[true, true, true, true, true, true, true, true, true, true, false, true, false]) (listed' := #[true, true, true, true, true, true, true, true, true, true, true, true, false]) (by kernel_rfl) rfl (by kernel_rfl) (by kernel_rfl) ?_)
        | (refine XT_one (t := 12) (s := true) (listed := #[true, true, true, true, true, true, true, true, true, true, true, true, false]) (listed' := #[true, true, true, true, true, true, true, true, true, true, true, true, true]) (by kernel_rfl) rfl (by kernel_rfl) (by kernel_rfl) ?_)
        | (with_reducible apply XB_nil)
        | ((with_reducible apply XM_nil); intro wq he; have hsz := he.size)
        | ((with_reducible apply XT_nil); kernel_rfl)
        | (with_reducible apply x_sink)
        | ((with_reducible apply x_keep); (focus ((repeat (first | assumption | exact Ex.refl _ | (refine Ex.trans ?_ (by assumption)) | (refine Ex.of_grown ?_ (by assumption) (by intro k hk; cases hk; omega)))); done)); intro wq he; have hsz := he.size)
        | (refine W_call (hmo _ (by repeat (first | assumption | exact Ex.refl _ | (refine Ex.trans ?_ (by assumption)) | (refine Ex.of_grown ?_ (by assumption) (by intro k hk; cases hk; omega))))) rfl ?_; rintro vq wq ⟨gm, rfl, hgm, hgm0⟩ he; have hsz := he.size; have him := IntsK.built (k := .i64) (n := n + 1) hgm (by simp) (by simp; omega))
        | (refine W_call (hro _ (by repeat (first | assumption | exact Ex.refl _ | (refine Ex.trans ?_ (by assumption)) | (refine Ex.of_grown ?_ (by assumption) (by intro k hk; cases hk; omega))))) rfl ?_; rintro vq wq ⟨ga, sv, us2, B, rfl, hga, hga0, hsv, hsh⟩ he; have hsz := he.size; have hsv1 := hsv.one; have hia := IntsK.built (k := .i64) (n := n + 1) hga (by simp) (by simp; omega))
        | (refine W_callv (hgl2 _ _ _ (IntsK.ex (by repeat (first | exact Ex.refl _ | assumption | (refine Ex.of_grown ?_ (by assumption) (by intro k hk; cases hk; omega)) | (refine Ex.trans ?_ (by assumption)))) him) (IntsK.ex (by repeat (first | exact Ex.refl _ | assumption | (refine Ex.of_grown ?_ (by assumption) (by intro k hk; cases hk; omega)) | (refine Ex.trans ?_ (by assumption)))) hia)) rfl (fun wq he => ?_); have hsz := he.size)
        | (with_reducible apply W_nil)
        | ((with_reducible apply W_box); exact rfl; exact rfl; intro bq wq hbq he hnq; have hltq := Bx.lt hbq; have hsz := he.size)
        | (with_reducible apply c_seq)
        | ((with_reducible apply c_region); kernel_rfl)
        | (with_reducible apply n_nq)
        | (with_reducible apply c_skip)
        | (with_reducible apply c_ret)
        | (with_reducible apply n_then))
    all_goals first | rfl | trace_state
  · rw [if_neg hc, if_neg hc]
    obtain ⟨e, hee⟩ : ∃ e, e = ptErr pls rs t := ⟨_, rfl⟩
    rw [← hee] at hck hc ⊢
    refine ret_of_c Try.func31 rfl Try.ntmps31 (Nat.le_of_ble_eq_true rfl) (by dsimp only [ini, Nat.reduceAdd] <;> exact rfl) ?_
    repeat' (first
        | ((with_reducible apply p_ret3); exact rfl; exact rfl; ((conv => lhs; whnf) <;> exact rfl); ((conv => lhs; whnf) <;> exact rfl); ((conv => lhs; whnf) <;> exact rfl); refine ⟨_, rfl, ?_, (by repeat (first | assumption | exact Ex.refl _ | (refine Ex.trans ?_ (by assumption)) | (refine Ex.of_grown ?_ (by assumption) (by intro k hk; cases hk; omega))))⟩)
        | ((with_reducible apply c_cond_dec); exact rfl; intro _; rotate_left 1; intro _; (all_goals (try (exfalso; (focus (omega; done))))))
        | ((first | ((with_reducible apply W_op); exact rfl; exact rfl) | ((with_reducible apply WQ_op); exact rfl; exact rfl; intro wq he) | ((with_reducible apply WM_op); exact rfl; exact rfl; intro wq he) | ((with_reducible apply WB_op); exact rfl; exact rfl; intro wq)); (first | ((with_reducible apply r_move); ((conv => lhs; whnf) <;> exact rfl)) | ((with_reducible apply r_assign); ((conv => lhs; whnf) <;> exact rfl)) | ((with_reducible apply r_loadA); exact rfl; (first | assumption | exact Bx.cells (by repeat (first | assumption | ((with_reducible apply Bx.grownS); assumption; (first | omega | exact Bx.ne (by assumption) (by omega))) | ((with_reducible apply Bx.below); assumption; omega) | ((with_reducible apply Bx.ex); assumption))) | exact Cells.ex (by assumption) (by assumption)); exact rfl) | ((with_reducible apply r_neq); exact rfl; exact rfl)))
        | (refine W_callv (hck _ (by repeat (first | assumption | exact Ex.refl _ | (refine Ex.trans ?_ (by assumption)) | (refine Ex.of_grown ?_ (by assumption) (by intro k hk; cases hk; omega))))) rfl (fun wq he => ?_); have hsz := he.size)
        | (with_reducible apply W_nil)
        | ((with_reducible apply W_box); exact rfl; exact rfl; intro bq wq hbq he hnq; have hltq := Bx.lt hbq; have hsz := he.size)
        | (with_reducible apply c_seq)
        | ((with_reducible apply c_region); kernel_rfl)
        | (with_reducible apply n_nq)
        | (with_reducible apply c_ret)
        | (with_reducible apply n_then)
        | (with_reducible apply r_then))
    all_goals first | rfl | trace_state
theorem Delay_any (pv rv : Value) (us vs : List Value) (pls rs : List (List (Int × Int))) (t : Int) (w : World) (h : Vals w pv us) (hx : BLs w us pls) (h2 : Vals w rv vs) (hx2 : BLs w vs rs) : Ret Try.prog 32 [.agg #[pv, rv], .int .i64 t] w fun r _ => r = .tuple #[.int .i64 (if dlErr pls rs t = 0 then (delayL pls rs t.toNat : Int) else 0), .int .i64 (dlErr pls rs t)] := by
  have hp1 := h.one
  have hr1 := h2.one
  have hck := fun w2 (e : Ex w w2) => checkPlant_any pv rv us vs pls rs t w2 (Vals.ex e h) (BLs.ex e hx) (Vals.ex e h2) (BLs.ex e hx2)
  by_cases hc : ptErr pls rs t = 0
  · obtain ⟨hpe, h0, h200⟩ := ptErr_inv hc
    obtain ⟨hl1, hl2, hb1, hb2⟩ := pErr_inv hpe
    obtain ⟨n, hn⟩ : ∃ n : Nat, t = n := ⟨t.toNat, by omega⟩
    subst hn
    have hde : dlErr pls rs (n : Int) = if 200 < delayL pls rs n then 11 else 0 := by unfold dlErr; rw [if_pos hc, Int.toNat_natCast]
    rw [hc] at hck
    rw [hde, Int.toNat_natCast]
    have hmo := fun w2 (e : Ex w w2) => mosts_any pv rv us pls n w2 (Vals.ex e h) (BLs.ex e hx) hr1 hb1 (by omega) (by omega)
    have hro := fun w2 (e : Ex w w2) => rowOf_any pv rv vs rs (n + 200) w2 (Vals.ex e h2) (BLs.ex e hx2) hp1 hb2 (by omega) (by omega)
    have hgl := fun a b w2 (ha : Ints w2 a ((List.range (n + 1)).map (dmN pls))) (hb : Ints w2 b ((List.range (n + 200 + 1)).map (rwTo rs rs.length))) => gdelay_any a b _ _ w2 ha hb (by simp) (by simp; omega)
    rw [List.length_map, List.length_range] at hgl
    obtain ⟨q, hq⟩ : ∃ q, delayL pls rs n = q := ⟨_, rfl⟩
    have hgl2 := fun a b w2 ha hb => (show Ret Try.prog 59 [a, b] w2 fun r _ => r = .int .i64 (q : Int) by rw [← hq]; exact hgl a b w2 ha hb)
    rw [hq]
    clear hgl
    by_cases hq2 : 200 < q
    · rw [if_pos hq2, if_neg (by decide)]
      refine ret_of_c Try.func32 rfl Try.ntmps32 (Nat.le_of_ble_eq_true rfl) (by dsimp only [ini, Nat.reduceAdd] <;> exact rfl) ?_
      repeat' (first
          | ((with_reducible apply c_cond_dec); exact rfl; intro _; rotate_left 1; intro _; (all_goals (try (exfalso; (focus (omega; done))))))
          | (refine c_mixX (id := 4) [] [0, 1, 3, 4, 5] 5 #[true, true, false, true, true, true, false, false, false, false] [false, false, false, false, false, false, false, false, false, false] [true, true, false, true, true, true, false, false, false, false] (by kernel_rfl) (by kernel_rfl) (by kernel_rfl) (by dsimp only [sel] <;> exact rfl) (by dsimp only [sel] <;> exact rfl) ?_)
          | ((with_reducible apply W_op); exact rfl; exact rfl; exact r_field (off := 0) (vs := [.slice (some ⟨ga, 0, none⟩) (n + 200 + 1) (n + 200 + 1), sv]) (by kernel_rfl) rfl rfl)
          | ((first | ((with_reducible apply W_op); exact rfl; exact rfl) | ((with_reducible apply WQ_op); exact rfl; exact rfl; intro wq he) | ((with_reducible apply WM_op); exact rfl; exact rfl; intro wq he) | ((with_reducible apply WB_op); exact rfl; exact rfl; intro wq)); (first | ((with_reducible apply r_move); ((conv => lhs; whnf) <;> exact rfl)) | ((with_reducible apply r_assign); ((conv => lhs; whnf) <;> exact rfl)) | ((with_reducible apply r_loadA); exact rfl; (first | assumption | exact Bx.cells (by repeat (first | assumption | ((with_reducible apply Bx.grownS); assumption; (first | omega | exact Bx.ne (by assumption) (by omega))) | ((with_reducible apply Bx.below); assumption; omega) | ((with_reducible apply Bx.ex); assumption))) | exact Cells.ex (by assumption) (by assumption)); exact rfl) | ((with_reducible apply r_gtr); exact rfl; exact rfl) | ((with_reducible apply r_neq); exact rfl; exact rfl) | ((with_reducible apply r_add); exact rfl; exact rfl; omega)))
          | (refine W_callv (hck _ (by repeat (first | assumption | exact Ex.refl _ | (refine Ex.trans ?_ (by assumption)) | (refine Ex.of_grown ?_ (by assumption) (by intro k hk; cases hk; omega))))) rfl (fun wq he => ?_); have hsz := he.size)
          | (refine XT_one (t := 2) (s := false) (listed := #[true, true, false, true, true, true, false, false, false, false]) (listed' := #[true, true, true, true, true, true, false, false, false, false]) (by kernel_rfl) rfl (by kernel_rfl) (by kernel_rfl) ?_)
          | (refine XT_one (t := 6) (s := true) (listed := #[true, true, true, true, true, true, false, false, false, false]) (listed' := #[true, true, true, true, true, true, true, false, false, false]) (by kernel_rfl) rfl (by kernel_rfl) (by kernel_rfl) ?_)
          | (refine XT_one (t := 7) (s := true) (listed := #[true, true, true, true, true, true, true, false, false, false]) (listed' := #[true, true, true, true, true, true, true, true, false, false]) (by kernel_rfl) rfl (by kernel_rfl) (by kernel_rfl) ?_)
          | (refine XT_one (t := 8) (s := true) (listed := #[true, true, true, true, true, true, true, true, false, false]) (listed' := #[true, true, true, true, true, true, true, true, true, false]) (by kernel_rfl) rfl (by kernel_rfl) (by kernel_rfl) ?_)
          | (refine XT_one (t := 9) (s := true) (listed := #[true, true, true, true, true, true, true, true, true, false]) (listed' := #[true, true, true, true, true, true, true, true, true, true]) (by kernel_rfl) rfl (by kernel_rfl) (by kernel_rfl) ?_)
          | (with_reducible apply XB_nil)
          | ((with_reducible apply XM_nil); intro wq he; have hsz := he.size)
          | ((with_reducible apply XT_nil); kernel_rfl)
          | (with_reducible apply x_sink)
          | ((with_reducible apply x_keep); (focus ((repeat (first | assumption | exact Ex.refl _ | (refine Ex.trans ?_ (by assumption)) | (refine Ex.of_grown ?_ (by assumption) (by intro k hk; cases hk; omega)))); done)); intro wq he; have hsz := he.size)
          | (refine W_call (hmo _ (by repeat (first | assumption | exact Ex.refl _ | (refine Ex.trans ?_ (by assumption)) | (refine Ex.of_grown ?_ (by assumption) (by intro k hk; cases hk; omega))))) rfl ?_; rintro vq wq ⟨gm, rfl, hgm, hgm0⟩ he; have hsz := he.size; have him := IntsK.built (k := .i64) (n := n + 1) hgm (by simp) (by simp; omega))
          | (refine W_call (hro _ (by repeat (first | assumption | exact Ex.refl _ | (refine Ex.trans ?_ (by assumption)) | (refine Ex.of_grown ?_ (by assumption) (by intro k hk; cases hk; omega))))) rfl ?_; rintro vq wq ⟨ga, sv, us2, B, rfl, hga, hga0, hsv, hsh⟩ he; have hsz := he.size; have hsv1 := hsv.one; have hia := IntsK.built (k := .i64) (n := n + 200 + 1) hga (by simp) (by simp; omega))
          | (refine W_callv (hgl2 _ _ _ (IntsK.ex (by repeat (first | exact Ex.refl _ | assumption | (refine Ex.of_grown ?_ (by assumption) (by intro k hk; cases hk; omega)) | (refine Ex.trans ?_ (by assumption)))) him) (IntsK.ex (by repeat (first | exact Ex.refl _ | assumption | (refine Ex.of_grown ?_ (by assumption) (by intro k hk; cases hk; omega)) | (refine Ex.trans ?_ (by assumption)))) hia)) rfl (fun wq he => ?_); have hsz := he.size)
          | (with_reducible apply W_nil)
          | ((with_reducible apply W_box); exact rfl; exact rfl; intro bq wq hbq he hnq; have hltq := Bx.lt hbq; have hsz := he.size)
          | (with_reducible apply c_seq)
          | ((with_reducible apply c_region); kernel_rfl)
          | (with_reducible apply n_nq)
          | (with_reducible apply c_skip)
          | (with_reducible apply c_ret)
          | (with_reducible apply n_then)
          | (with_reducible apply r_then)
          | ((with_reducible apply p_ret2); exact rfl; exact rfl; ((conv => lhs; whnf) <;> exact rfl); ((conv => lhs; whnf) <;> exact rfl); refine ⟨_, rfl, ?_, (by repeat (first | assumption | exact Ex.refl _ | (refine Ex.trans ?_ (by assumption)) | (refine Ex.of_grown ?_ (by assumption) (by intro k hk; cases hk; omega))))⟩))
      all_goals first | rfl | trace_state
    · rw [if_neg hq2, if_pos rfl]
      refine ret_of_c Try.func32 rfl Try.ntmps32 (Nat.le_of_ble_eq_true rfl) (by dsimp only [ini, Nat.reduceAdd] <;> exact rfl) ?_
      repeat' (first
          | ((with_reducible apply c_cond_dec); exact rfl; intro _; rotate_left 1; intro _; (all_goals (try (exfalso; (focus (omega; done))))))
          | (refine c_mixX (id := 4) [] [0, 1, 3, 4, 5] 5 #[true, true, false, true, true, true, false, false, false, false] [false, false, false, false, false, false, false, false, false, false] [true, true, false, true, true, true, false, false, false, false] (by kernel_rfl) (by kernel_rfl) (by kernel_rfl) (by dsimp only [sel] <;> exact rfl) (by dsimp only [sel] <;> exact rfl) ?_)
          | ((with_reducible apply W_op); exact rfl; exact rfl; exact r_field (off := 0) (vs := [.slice (some ⟨ga, 0, none⟩) (n + 200 + 1) (n + 200 + 1), sv]) (by kernel_rfl) rfl rfl)
          | ((first | ((with_reducible apply W_op); exact rfl; exact rfl) | ((with_reducible apply WQ_op); exact rfl; exact rfl; intro wq he) | ((with_reducible apply WM_op); exact rfl; exact rfl; intro wq he) | ((with_reducible apply WB_op); exact rfl; exact rfl; intro wq)); (first | ((with_reducible apply r_move); ((conv => lhs; whnf) <;> exact rfl)) | ((with_reducible apply r_assign); ((conv => lhs; whnf) <;> exact rfl)) | ((with_reducible apply r_loadA); exact rfl; (first | assumption | exact Bx.cells (by repeat (first | assumption | ((with_reducible apply Bx.grownS); assumption; (first | omega | exact Bx.ne (by assumption) (by omega))) | ((with_reducible apply Bx.below); assumption; omega) | ((with_reducible apply Bx.ex); assumption))) | exact Cells.ex (by assumption) (by assumption)); exact rfl) | ((with_reducible apply r_gtr); exact rfl; exact rfl) | ((with_reducible apply r_neq); exact rfl; exact rfl) | ((with_reducible apply r_add); exact rfl; exact rfl; omega)))
          | (refine W_callv (hck _ (by repeat (first | assumption | exact Ex.refl _ | (refine Ex.trans ?_ (by assumption)) | (refine Ex.of_grown ?_ (by assumption) (by intro k hk; cases hk; omega))))) rfl (fun wq he => ?_); have hsz := he.size)
          | (refine XT_one (t := 2) (s := false) (listed := #[true, true, false, true, true, true, false, false, false, false]) (listed' := #[true, true, true, true, true, true, false, false, false, false]) (by kernel_rfl) rfl (by kernel_rfl) (by kernel_rfl) ?_)
          | (refine XT_one (t := 6) (s := true) (listed := #[true, true, true, true, true, true, false, false, false, false]) (listed' := #[true, true, true, true, true, true, true, false, false, false]) (by kernel_rfl) rfl (by kernel_rfl) (by kernel_rfl) ?_)
          | (refine XT_one (t := 7) (s := true) (listed := #[true, true, true, true, true, true, true, false, false, false]) (listed' := #[true, true, true, true, true, true, true, true, false, false]) (by kernel_rfl) rfl (by kernel_rfl) (by kernel_rfl) ?_)
          | (refine XT_one (t := 8) (s := true) (listed := #[true, true, true, true, true, true, true, true, false, false]) (listed' := #[true, true, true, true, true, true, true, true, true, false]) (by kernel_rfl) rfl (by kernel_rfl) (by kernel_rfl) ?_)
          | (refine XT_one (t := 9) (s := true) (listed := #[true, true, true, true, true, true, true, true, true, false]) (listed' := #[true, true, true, true, true, true, true, true, true, true]) (by kernel_rfl) rfl (by kernel_rfl) (by kernel_rfl) ?_)
          | (with_reducible apply XB_nil)
          | ((with_reducible apply XM_nil); intro wq he; have hsz := he.size)
          | ((with_reducible apply XT_nil); kernel_rfl)
          | (with_reducible apply x_sink)
          | ((with_reducible apply x_keep); (focus ((repeat (first | assumption | exact Ex.refl _ | (refine Ex.trans ?_ (by assumption)) | (refine Ex.of_grown ?_ (by assumption) (by intro k hk; cases hk; omega)))); done)); intro wq he; have hsz := he.size)
          | (refine W_call (hmo _ (by repeat (first | assumption | exact Ex.refl _ | (refine Ex.trans ?_ (by assumption)) | (refine Ex.of_grown ?_ (by assumption) (by intro k hk; cases hk; omega))))) rfl ?_; rintro vq wq ⟨gm, rfl, hgm, hgm0⟩ he; have hsz := he.size; have him := IntsK.built (k := .i64) (n := n + 1) hgm (by simp) (by simp; omega))
          | (refine W_call (hro _ (by repeat (first | assumption | exact Ex.refl _ | (refine Ex.trans ?_ (by assumption)) | (refine Ex.of_grown ?_ (by assumption) (by intro k hk; cases hk; omega))))) rfl ?_; rintro vq wq ⟨ga, sv, us2, B, rfl, hga, hga0, hsv, hsh⟩ he; have hsz := he.size; have hsv1 := hsv.one; have hia := IntsK.built (k := .i64) (n := n + 200 + 1) hga (by simp) (by simp; omega))
          | (refine W_callv (hgl2 _ _ _ (IntsK.ex (by repeat (first | exact Ex.refl _ | assumption | (refine Ex.of_grown ?_ (by assumption) (by intro k hk; cases hk; omega)) | (refine Ex.trans ?_ (by assumption)))) him) (IntsK.ex (by repeat (first | exact Ex.refl _ | assumption | (refine Ex.of_grown ?_ (by assumption) (by intro k hk; cases hk; omega)) | (refine Ex.trans ?_ (by assumption)))) hia)) rfl (fun wq he => ?_); have hsz := he.size)
          | (with_reducible apply W_nil)
          | ((with_reducible apply W_box); exact rfl; exact rfl; intro bq wq hbq he hnq; have hltq := Bx.lt hbq; have hsz := he.size)
          | (with_reducible apply c_seq)
          | ((with_reducible apply c_region); kernel_rfl)
          | (with_reducible apply n_nq)
          | (with_reducible apply c_skip)
          | (with_reducible apply c_ret)
          | (with_reducible apply n_then)
          | ((with_reducible apply p_ret2); exact rfl; exact rfl; ((conv => lhs; whnf) <;> exact rfl); ((conv => lhs; whnf) <;> exact rfl); refine ⟨_, rfl, ?_, (by repeat (first | assumption | exact Ex.refl _ | (refine Ex.trans ?_ (by assumption)) | (refine Ex.of_grown ?_ (by assumption) (by intro k hk; cases hk; omega))))⟩))
      all_goals first | rfl | trace_state
  · have hde : dlErr pls rs t = ptErr pls rs t := by unfold dlErr; rw [if_neg hc]
    rw [hde, if_neg hc]
    obtain ⟨e, hee⟩ : ∃ e, e = ptErr pls rs t := ⟨_, rfl⟩
    rw [← hee] at hck hc ⊢
    refine ret_of_c Try.func32 rfl Try.ntmps32 (Nat.le_of_ble_eq_true rfl) (by dsimp only [ini, Nat.reduceAdd] <;> exact rfl) ?_
    repeat' (first
        | ((with_reducible apply c_cond_dec); exact rfl; intro _; rotate_left 1; intro _; (all_goals (try (exfalso; (focus (omega; done))))))
        | ((first | ((with_reducible apply W_op); exact rfl; exact rfl) | ((with_reducible apply WQ_op); exact rfl; exact rfl; intro wq he) | ((with_reducible apply WM_op); exact rfl; exact rfl; intro wq he) | ((with_reducible apply WB_op); exact rfl; exact rfl; intro wq)); (first | ((with_reducible apply r_move); ((conv => lhs; whnf) <;> exact rfl)) | ((with_reducible apply r_assign); ((conv => lhs; whnf) <;> exact rfl)) | ((with_reducible apply r_loadA); exact rfl; (first | assumption | exact Bx.cells (by repeat (first | assumption | ((with_reducible apply Bx.grownS); assumption; (first | omega | exact Bx.ne (by assumption) (by omega))) | ((with_reducible apply Bx.below); assumption; omega) | ((with_reducible apply Bx.ex); assumption))) | exact Cells.ex (by assumption) (by assumption)); exact rfl) | ((with_reducible apply r_neq); exact rfl; exact rfl)))
        | (refine W_callv (hck _ (by repeat (first | assumption | exact Ex.refl _ | (refine Ex.trans ?_ (by assumption)) | (refine Ex.of_grown ?_ (by assumption) (by intro k hk; cases hk; omega))))) rfl (fun wq he => ?_); have hsz := he.size)
        | (with_reducible apply W_nil)
        | ((with_reducible apply W_box); exact rfl; exact rfl; intro bq wq hbq he hnq; have hltq := Bx.lt hbq; have hsz := he.size)
        | (with_reducible apply c_seq)
        | ((with_reducible apply c_region); kernel_rfl)
        | (with_reducible apply n_nq)
        | (with_reducible apply c_ret)
        | (with_reducible apply n_then)
        | (with_reducible apply r_then)
        | ((with_reducible apply p_ret2); exact rfl; exact rfl; ((conv => lhs; whnf) <;> exact rfl); ((conv => lhs; whnf) <;> exact rfl); refine ⟨_, rfl, ?_, (by repeat (first | assumption | exact Ex.refl _ | (refine Ex.trans ?_ (by assumption)) | (refine Ex.of_grown ?_ (by assumption) (by intro k hk; cases hk; omega))))⟩))
    all_goals first | rfl | trace_state
end Go.Proofs.Ytlphfobpheefkaa
