/-
  What this text proves: the errors of shares and of coefficients are as the plain functions say. Conditions: the values read as lists.
-/
import Derived.Test.YtngoipmdhliigaaVKi
set_option linter.unusedVariables false
set_option linter.unusedSimpArgs false
namespace Go.Pv
open Go.RowKit
def rngS (s : Int × Int) : Prop := (1 ≤ s.1 ∧ s.1 ≤ 20) ∧ 0 ≤ s.2 ∧ s.2 ≤ 250
instance (s : Int × Int) : Decidable (rngS s) := by unfold rngS; exact inferInstance
def errF (sh : List (Int × Int)) : Nat → Nat → Int
  | 0, _ => 0
  | f + 1, i => if ¬ rngS (sh.getD i (0, 0)) then 3 else if (sh.getD i (0, 0)).1 ∈ (kS sh).take i then 9 else errF sh f (i + 1)
def shErr (sh : List (Int × Int)) : Int := errF sh sh.length 0
theorem err_rng {sh : List (Int × Int)} {k : Nat} (hk : k < sh.length) (h : ¬ rngS (sh.getD k (0, 0))) : errF sh (sh.length - k) k = 3 := by
  rw [show sh.length - k = (sh.length - (k + 1)) + 1 by omega]; simp only [errF]; rw [if_pos h]
theorem err_two {sh : List (Int × Int)} {k : Nat} (hk : k < sh.length) (h : rngS (sh.getD k (0, 0))) (h2 : (sh.getD k (0, 0)).1 ∈ (kS sh).take k) : errF sh (sh.length - k) k = 9 := by
  rw [show sh.length - k = (sh.length - (k + 1)) + 1 by omega]; simp only [errF]; rw [if_neg (Classical.not_not.2 h), if_pos h2]
theorem err_next {sh : List (Int × Int)} {k : Nat} (hk : k < sh.length) (h : rngS (sh.getD k (0, 0))) (h2 : ¬ (sh.getD k (0, 0)).1 ∈ (kS sh).take k) : errF sh (sh.length - k) k = errF sh (sh.length - (k + 1)) (k + 1) := by
  rw [show sh.length - k = (sh.length - (k + 1)) + 1 by omega]; simp only [errF]; rw [if_neg (Classical.not_not.2 h), if_neg h2]
theorem errF_inv {sh : List (Int × Int)} : ∀ (f i : Nat), errF sh f i = 0 → ∀ j, i ≤ j → j < i + f → rngS (sh.getD j (0, 0)) ∧ ¬ (sh.getD j (0, 0)).1 ∈ (kS sh).take j
  | 0, i, _, j, h1, h2 => by omega
  | f + 1, i, h, j, h1, h2 => by
    simp only [errF] at h
    split at h
    · omega
    · next hr =>
      split at h
      · omega
      · next hm =>
        by_cases hj : j = i
        · subst hj; exact ⟨Classical.not_not.1 hr, hm⟩
        · exact errF_inv f (i + 1) h j (by omega) (by omega)
def chk (need : Int) (sh : List (Int × Int)) : Int := if ¬ (1 ≤ need ∧ need ≤ 8) then 3 else if 20 < sh.length then 5 else shErr sh
theorem chk_inv {need : Int} {sh : List (Int × Int)} (h : chk need sh = 0) : (1 ≤ need ∧ need ≤ 8) ∧ sh.length ≤ 20 ∧ shErr sh = 0 := by
  unfold chk at h
  split at h
  · omega
  · split at h
    · omega
    · exact ⟨by omega, by omega, h⟩
theorem sh_ok {sh : List (Int × Int)} (h : shErr sh = 0) : okS sh ∧ Dist (kS sh) := by
  have hi := fun j (hj : j < sh.length) => errF_inv sh.length 0 h j (Nat.zero_le _) (by omega)
  refine ⟨fun i => ?_, fun i k hk hil => ?_⟩
  · by_cases h1 : i < sh.length
    · have := (hi i h1).1
      unfold rngS at this
      unfold nb
      omega
    · have e : sh.getD i (0, 0) = (0, 0) := by simp only [List.getD]; rw [List.getElem?_eq_none (by omega)]; rfl
      rw [e]; unfold nb; decide
  · rw [kS_len] at hil
    rw [kS_get, kS_get]
    intro hc
    have a := hi i hil
    have b := hi k (by omega)
    unfold rngS at a b
    have e := hc.eq (by omega) (by omega)
    refine a.2 ?_
    rw [e, ← kS_get]
    have hk2 : k < ((kS sh).take i).length := by rw [List.length_take, kS_len]; omega
    have e2 : (kS sh).getD k 0 = ((kS sh).take i)[k] := by simp [List.getD, show k < (kS sh).length by rw [kS_len]; omega]
    rw [e2]; exact List.getElem_mem hk2
/-- Which keepers have come up. -/
def metC (sh : List (Int × Int)) (k : Nat) : List Value := (List.range 21).map fun (j : Nat) => .bool (decide ((j : Int) ∈ (kS sh).take k))
theorem metC_len (sh : List (Int × Int)) (k : Nat) : (metC sh k).length = 21 := by simp [metC]
theorem metC_zero (sh : List (Int × Int)) : metC sh 0 = List.replicate 21 (.bool false) := by simp [metC]; rfl
theorem metC_get {sh : List (Int × Int)} {k j : Nat} (h : j < 21) : (metC sh k)[j]? = some (.bool (decide ((j : Int) ∈ (kS sh).take k))) := by simp [metC, h]
theorem metC_set {sh : List (Int × Int)} {k j : Nat} (hk : k < sh.length) (h : (sh.getD k (0, 0)).1 = (j : Int)) : (metC sh k).set j (.bool true) = metC sh (k + 1) := by
  have ht : (kS sh).take (k + 1) = (kS sh).take k ++ [(j : Int)] := by
    rw [List.take_succ_eq_append_getElem (by rw [kS_len]; exact hk)]
    congr 2
    have := kS_get sh k
    rw [h] at this
    rw [← this]; simp [List.getD, show k < (kS sh).length by rw [kS_len]; exact hk]
  apply List.ext_getElem?
  intro i
  by_cases hi : i < 21
  · rw [metC_get hi, ht]
    by_cases e : i = j
    · subst e
      rw [List.getElem?_set_self (by rw [metC_len]; exact hi)]
      simp
    · rw [List.getElem?_set_ne (fun x => e x.symm), metC_get hi]
      congr 2
      simp only [List.mem_append, List.mem_singleton]
      refine decide_eq_decide.2 ⟨fun h => .inl h, fun h => h.resolve_right (by omega)⟩
  · rw [List.getElem?_eq_none (by rw [List.length_set, metC_len]; omega), List.getElem?_eq_none (by rw [metC_len]; omega)]
theorem r_indexA1 {P : Program} {l : St} {w : World} {od : Option Nat} {ty : TypeId} {pos : String} {af : Array Edge} {x ix : Operand} {T e : TypeId} {n b i : Nat} {k : IntKind} {z : Value} {bb : Nat} [h : Und P T (.array n e)] [hs : Sz P e z 1 bb] (hx : ev l x = .pointer (some ⟨b, 0, none⟩)) (hi : ev l ix = .int k (i : Int)) (hlt : i < n) :
    Runs P ⟨od, .indexAddr T x ix, ty, pos, af, none⟩ l w (.pointer (some ⟨b, i, none⟩)) := by
  have := r_indexArr (P := P) (od := od) (ty := ty) (pos := pos) (af := af) (l := l) (w := w) (T := T) (e := e) hx hi hlt
  simpa using this
/-- The error of coefficients. -/
def polErr (l : List Int) : Int := if l.length = 0 then 4 else if 8 < l.length then 5 else if ∀ i, i < l.length → 0 ≤ l.getD i 0 ∧ l.getD i 0 ≤ 250 then 0 else 3
end Go.Pv
namespace Go.Proofs.Ytngoipmdhliigaa
open Go.Pv Go.RowKit Go.Sort
set_option maxHeartbeats 8000000
set_option maxRecDepth 20000
theorem within_any (n a b : Int) (w : World) : Ret Try.prog 54 [.int .i64 n, .int .i64 a, .int .i64 b] w fun r _ => r = .bool (decide (a ≤ n ∧ n ≤ b)) := by
  refine ret_of_c Try.func54 rfl Try.ntmps54 (Nat.le_of_ble_eq_true rfl) (by dsimp only [ini, Nat.reduceAdd] <;> exact rfl) ?_
  repeat' (first
      | ((first | ((with_reducible apply W_op); exact rfl; exact rfl)); (first | ((with_reducible apply r_move); ((conv => lhs; whnf) <;> exact rfl)) | ((with_reducible apply r_assign); ((conv => lhs; whnf) <;> exact rfl)) | ((with_reducible apply r_leq); exact rfl; exact rfl) | ((with_reducible apply r_pick_true); exact rfl; ((conv => lhs; whnf) <;> exact rfl)) | ((with_reducible apply r_pick_false); exact rfl; ((conv => lhs; whnf) <;> exact rfl))))
      | (with_reducible apply W_nil)
      | ((with_reducible apply W_pass); exact rfl; exact rfl; exact rfl; exact rfl; exact rfl)
      | ((with_reducible apply W_take); exact rfl; exact rfl; exact rfl)
      | ((with_reducible apply W_split); exact rfl; exact rfl; intro _; rotate_left 1; intro _)
      | (with_reducible apply c_seq)
      | ((with_reducible apply c_region); kernel_rfl)
      | (with_reducible apply n_nq)
      | (with_reducible apply c_ret)
      | (with_reducible apply n_then)
      | ((with_reducible apply p_ret1); exact rfl; exact rfl; ((conv => lhs; whnf) <;> exact rfl); refine ⟨_, rfl, ?_, (by repeat (first | assumption | exact Ex.refl _ | (refine Ex.trans ?_ (by assumption)) | (refine Ex.of_grown ?_ (by assumption) (by intro k hk; cases hk; omega))))⟩))
  all_goals first | exact congrArg Value.bool (decide_eq_decide.2 (by omega)) | (apply bool_ff; omega) | (apply bool_tt; omega) | trace_state
theorem isNumber_any (n : Int) (w : World) : Ret Try.prog 46 [.int .i64 n] w fun r _ => r = .bool (decide (0 ≤ n ∧ n ≤ 250)) := by
  refine ret_of_c Try.func46 rfl Try.ntmps46 (Nat.le_of_ble_eq_true rfl) (by dsimp only [ini, Nat.reduceAdd] <;> exact rfl) ?_
  repeat' (first
      | ((first | ((with_reducible apply W_op); exact rfl; exact rfl)); (first | ((with_reducible apply r_move); ((conv => lhs; whnf) <;> exact rfl)) | ((with_reducible apply r_assign); ((conv => lhs; whnf) <;> exact rfl))))
      | (refine W_callv (within_any n 0 250 _) rfl (fun wq he => ?_); have hsz := he.size)
      | (with_reducible apply W_nil)
      | (with_reducible apply c_seq)
      | ((with_reducible apply c_region); kernel_rfl)
      | (with_reducible apply n_nq)
      | (with_reducible apply c_ret)
      | (with_reducible apply n_then)
      | ((with_reducible apply p_ret1); exact rfl; exact rfl; ((conv => lhs; whnf) <;> exact rfl); refine ⟨_, rfl, ?_, (by repeat (first | assumption | exact Ex.refl _ | (refine Ex.trans ?_ (by assumption)) | (refine Ex.of_grown ?_ (by assumption) (by intro k hk; cases hk; omega))))⟩))
  all_goals first | rfl | trace_state
theorem check_any (need : Int) (v : Value) (sh : List (Int × Int)) (w : World) (h : Prs w v sh) : Ret Try.prog 56 [.int .i64 need, v] w fun r _ => r = .int .i64 (chk need sh) := by
  have hv1 := h.one
  have hln := h.len
  have tkL : True := trivial
  refine ret_of_c Try.func56 rfl Try.ntmps56 (Nat.le_of_ble_eq_true rfl) (by dsimp only [ini, Nat.reduceAdd] <;> exact rfl) ?_
  repeat' (first
      | ((with_reducible apply W_op); exact rfl; exact rfl; exact r_lenPrs rfl (Prs.ex (show Ex w _ from (by repeat (first | exact Ex.refl _ | assumption | (refine Ex.of_grown ?_ (by assumption) (by intro k hk; cases hk; omega)) | (refine Ex.trans ?_ (by assumption))))) h))
      | (refine W_indexPr2 (i := k) (v := v) (xs := sh) rfl (Prs.ex (show Ex w _ from (by repeat (first | exact Ex.refl _ | assumption | (refine Ex.of_grown ?_ (by assumption) (by intro k hk; cases hk; omega)) | (refine Ex.trans ?_ (by assumption))))) h) rfl (by omega) ?_; intro pb po hpc hp0 hp1)
      | (clear tkM; (by_cases hr : rngS (sh.getD k (0, 0)); have hr1 := hr; unfold rngS at hr1; (obtain ⟨kn, hkn⟩ : ∃ kn : Nat, (sh.getD k (0, 0)).1 = kn := ⟨(sh.getD k (0, 0)).1.toNat, by omega⟩); rotate_left 1; have hr1 := hr; unfold rngS at hr1; rotate_left 1))
      | ((with_reducible apply W_op); exact rfl; exact rfl; exact r_indexA1 (n := 21) (i := kn) rfl (by rw [← hkn]; rfl) (by omega))
      | ((with_reducible apply W_op); exact rfl; exact rfl; exact r_load rfl rfl ((Bx.cell (by repeat (first | assumption | ((with_reducible apply Bx.grownS); assumption; (first | omega | exact Bx.ne (by assumption) (by omega))) | ((with_reducible apply Bx.below); assumption; omega) | ((with_reducible apply Bx.ex); assumption))) _).trans (metC_get (by omega))))
      | (refine W_store (o := kn) (v := .bool true) rfl (by repeat (first | assumption | ((with_reducible apply Bx.grownS); assumption; (first | omega | exact Bx.ne (by assumption) (by omega))) | ((with_reducible apply Bx.below); assumption; omega) | ((with_reducible apply Bx.ex); assumption))) (by rw [metC_len]; omega) rfl rfl ?_; intro wq hbm2 hgq; rw [← lset_eq, metC_set (by omega) hkn] at hbm2; have he : Ex w wq := (by repeat (first | assumption | exact Ex.refl _ | (refine Ex.trans ?_ (by assumption)) | (refine Ex.of_grown ?_ (by assumption) (by intro k hk; cases hk; omega)))); have hsz := he.size)
      | ((with_reducible (show C _ _ _ _ _ _)); clear tkL; refine c_loopG (fun (k : Nat) ps wr => ∃ b5 : Nat, ∃ i : Int, ps = [(5, .pointer (some ⟨b5, 0, none⟩)), (16, v), (17, .int .i64 sh.length), (18, .int .i64 i)] ∧ i = k ∧ k ≤ sh.length ∧ errF sh (sh.length - k) k = shErr sh ∧ w.heap.size ≤ b5 ∧ Bx wr b5 (metC sh k) 108 ∧ Ex w wr) (fun k => sh.length - k) 0 _ ⟨_, _, rfl, rfl, Nat.zero_le _, rfl, (by omega), (by rw [metC_zero]; exact (by repeat (first | assumption | ((with_reducible apply Bx.grownS); assumption; (first | omega | exact Bx.ne (by assumption) (by omega))) | ((with_reducible apply Bx.below); assumption; omega) | ((with_reducible apply Bx.ex); assumption)))), (by repeat (first | assumption | exact Ex.refl _ | (refine Ex.trans ?_ (by assumption)) | (refine Ex.of_grown ?_ (by assumption) (by intro k hk; cases hk; omega))))⟩ ⟨rfl, rfl, rfl, rfl, trivial⟩ (by ((conv => lhs; whnf) <;> exact rfl)) (by ((conv => lhs; whnf) <;> exact rfl)) ?_; rintro J hJ k u ps wr ⟨b5, i, rfl, rfl, hk, hef, hb5, hx5, he⟩; have hsz := he.size; have tkM : True := trivial)
      | ((first | ((with_reducible apply W_op); exact rfl; exact rfl)); (first | ((with_reducible apply r_move); ((conv => lhs; whnf) <;> exact rfl)) | ((with_reducible apply r_assign); ((conv => lhs; whnf) <;> exact rfl)) | ((with_reducible apply r_fieldAddr); exact rfl) | ((with_reducible apply r_load); exact rfl; exact rfl; (first | assumption | exact (Bx.cell (by repeat (first | assumption | ((with_reducible apply Bx.grownS); assumption; (first | omega | exact Bx.ne (by assumption) (by omega))) | ((with_reducible apply Bx.below); assumption; omega) | ((with_reducible apply Bx.ex); assumption))) _).trans rfl | exact Ex.cell (by assumption) (by assumption))) | ((with_reducible apply r_loadA); exact rfl; (first | assumption | exact Bx.cells (by repeat (first | assumption | ((with_reducible apply Bx.grownS); assumption; (first | omega | exact Bx.ne (by assumption) (by omega))) | ((with_reducible apply Bx.below); assumption; omega) | ((with_reducible apply Bx.ex); assumption))) | exact Cells.ex (by assumption) (by assumption)); exact rfl) | ((with_reducible apply r_lss); exact rfl; exact rfl) | ((with_reducible apply r_gtr); exact rfl; exact rfl) | ((with_reducible apply r_add); exact rfl; exact rfl; omega) | ((with_reducible apply r_pick_true); exact rfl; ((conv => lhs; whnf) <;> exact rfl)) | ((with_reducible apply r_pick_false); exact rfl; ((conv => lhs; whnf) <;> exact rfl)) | ((with_reducible apply r_not); exact rfl)))
      | (refine W_callv (within_any need 1 8 _) rfl (fun wq he => ?_); have hsz := he.size)
      | (refine W_callv (within_any (sh.getD k (0, 0)).1 1 20 _) rfl (fun wq he => ?_); have hsz := he.size)
      | (refine W_callv (isNumber_any (sh.getD k (0, 0)).2 _) rfl (fun wq he => ?_); have hsz := he.size)
      | ((with_reducible (show Exit.then _ _ _ _ _)); refine n_roundG (k + 1) (hJ _ _ _ _ ⟨_, _, rfl, by omega, by omega, (by rw [← err_next (by omega) hr (by rw [hkn]; assumption)]; exact hef), hb5, hbm2, (by repeat (first | assumption | exact Ex.refl _ | (refine Ex.trans ?_ (by assumption)) | (refine Ex.of_grown ?_ (by assumption) (by intro k hk; cases hk; omega))))⟩ ⟨rfl, rfl, rfl, rfl, trivial⟩ rfl) (by omega))
      | (with_reducible apply W_nil)
      | ((with_reducible apply W_alloc); exact rfl; intro bq wq hbq he hnq; have hltq := Bx.lt hbq; have hsz := he.size)
      | ((with_reducible apply W_storeA); exact rfl; (focus ((repeat (first | assumption | ((with_reducible apply Bx.grownS); assumption; (first | omega | exact Bx.ne (by assumption) (by omega))) | ((with_reducible apply Bx.below); assumption; omega) | ((with_reducible apply Bx.ex); assumption))); done)); exact rfl; exact rfl; exact rfl; (repeat' (first | exact trivial | (first | exact rfl | assumption | exact IntsK.one (by assumption) | exact Prs.one (by assumption) | exact Own.one (by assumption)) | constructor)); intro wq hbq hgq; have he : Ex w wq := (by repeat (first | assumption | exact Ex.refl _ | (refine Ex.trans ?_ (by assumption)) | (refine Ex.of_grown ?_ (by assumption) (by intro k hk; cases hk; omega)))); have hsz := he.size; have hgz := hgq.size)
      | ((with_reducible apply W_pass); exact rfl; exact rfl; exact rfl; exact rfl; exact rfl)
      | ((with_reducible apply W_take); exact rfl; exact rfl; exact rfl)
      | ((with_reducible apply W_split); exact rfl; exact rfl; intro _; rotate_left 1; intro _)
      | (with_reducible apply c_seq)
      | ((with_reducible apply c_region); kernel_rfl)
      | (with_reducible apply n_nq)
      | (with_reducible apply c_block)
      | (with_reducible apply c_skip)
      | (with_reducible apply c_ret)
      | (with_reducible apply c_exit)
      | ((with_reducible apply c_cond_true); exact rfl)
      | ((with_reducible apply c_cond_dec); exact rfl; intro _; rotate_left 1; intro _)
      | (with_reducible apply n_then)
      | (with_reducible apply n_block)
      | (with_reducible apply e_then)
      | (with_reducible apply e_block)
      | (with_reducible apply r_then)
      | (with_reducible apply r_block)
      | ((with_reducible apply p_ret1); exact rfl; exact rfl; ((conv => lhs; whnf) <;> exact rfl); refine ⟨_, rfl, ?_, (by repeat (first | assumption | exact Ex.refl _ | (refine Ex.trans ?_ (by assumption)) | (refine Ex.of_grown ?_ (by assumption) (by intro k hk; cases hk; omega))))⟩)
      | ((exfalso; omega)))
  all_goals first
    | (refine congrArg _ (Eq.symm ?_); unfold chk; rw [if_pos (by omega)]; done)
    | (refine congrArg _ (Eq.symm ?_); unfold chk; rw [if_neg (by omega), if_pos (by omega)]; done)
    | (refine congrArg _ (Eq.symm ?_); unfold chk; rw [if_neg (by omega), if_neg (by omega), ← hef, err_rng (by omega) hr]; done)
    | (refine congrArg _ (Eq.symm ?_); unfold chk; rw [if_neg (by omega), if_neg (by omega), ← hef, err_two (by omega) hr (by rw [hkn]; assumption)]; done)
    | (refine congrArg _ (Eq.symm ?_); unfold chk; rw [if_neg (by omega), if_neg (by omega), ← hef, show sh.length - k = 0 by omega]; rfl)
    | trace_state
end Go.Proofs.Ytngoipmdhliigaa
