/-
  (heavy) What this text proves: coefficients by numbers, their values, and shares of keepers by numbers, as the plain functions say. Conditions: the values read as lists.
-/
import Derived.Test.YtngoipmdhliigaaVJ0
set_option linter.unusedVariables false
set_option linter.unusedSimpArgs false
namespace Go.Pv
open Go.RowKit
/-- The coefficients of a lock. -/
def lockM (xs : List Int) : List Int := (xs.map (· % 251)).take 8
def lockL (xs : List Int) : List Int := if xs.length = 0 then [0] else lockM xs
theorem lockM_nb (xs : List Int) : nbL (lockM xs) := fun i => by
  unfold lockM
  by_cases h : i < ((xs.map (· % 251)).take 8).length
  · simp at h
    have hi : i < xs.length := by omega
    have e : ((xs.map (· % 251)).take 8).getD i 0 = xs[i] % 251 := by
      simp only [List.getD]; rw [List.getElem?_take_of_lt (by omega)]; simp [hi]
    rw [e]; exact nb_md _
  · have e : ((xs.map (· % 251)).take 8).getD i 0 = 0 := by simp only [List.getD]; rw [List.getElem?_eq_none (by omega)]; rfl
    rw [e]; unfold nb; decide
theorem lockL_nb (xs : List Int) : nbL (lockL xs) := by
  unfold lockL
  split
  · intro i
    cases i with
    | zero => simp [nb]
    | succ i => simp [nb]
  · exact lockM_nb xs
theorem lockL_len (xs : List Int) : 1 ≤ (lockL xs).length ∧ (lockL xs).length ≤ 8 := by
  unfold lockL
  split
  · simp
  · unfold lockM; simp; omega
theorem lock_step (xs : List Int) (k : Nat) (h : k < xs.length) : (xs.map (· % 251)).take (k + 1) = (xs.map (· % 251)).take k ++ [xs.getD k 0 % 251] := by
  rw [List.take_succ_eq_append_getElem (by simpa using h)]; simp [h]
theorem lock_fin {xs : List Int} {k : Nat} (h8 : k ≤ 8) (hk : k ≤ xs.length) (h : ¬ k < xs.length ∨ ¬ k < 8) (h0 : xs.length ≠ 0) : (xs.map (· % 251)).take k = lockL xs := by
  unfold lockL lockM
  rw [if_neg h0]
  rcases Nat.lt_or_ge k 8 with h1 | h1
  · rw [List.take_of_length_le (by simp; omega), List.take_of_length_le (by simp; omega)]
  · rw [show k = 8 by omega]
theorem sum_next {l : List Int} {x : Int} {k : Nat} (hk : k < l.length) : (evP (l.take k) x % 251 + l.getD k 0 * pw x k % 251) % 251 = evP (l.take (k + 1)) x % 251 := by
  have hg : l.getD k 0 = l[k] := by simp [hk]
  rw [List.take_succ_eq_append_getElem hk, evP_app, hg, List.length_take, Nat.min_eq_left (by omega)]
  exact Cg.eq ((Cg.md _).trans ((Cg.add (Cg.md _) (Cg.md _)).trans (Cg.md _).symm)) (md_bd _) (md_bd _)
theorem pw_step (c x : Int) (k : Nat) : c * pw x k % 251 * x % 251 = c * pw x (k + 1) % 251 := by
  refine Cg.eq ((Cg.md _).trans ((Cg.mul (Cg.md _) (Cg.refl x)).trans ?_)) (md_bd _) (md_bd _)
  have e : c * pw x k * x = c * pw x (k + 1) := by simp only [pw]; rw [Int.mul_assoc]
  rw [e]; exact (Cg.md _).symm
/-- Shares of a polynomial. -/
def shL (l ks : List Int) : List (Int × Int) := ks.map fun k => (k, atP l k)
theorem shL_len (l ks : List Int) : (shL l ks).length = ks.length := by simp [shL]
theorem shL_next (l ks : List Int) (k : Int) : shL l (ks ++ [k]) = shL l ks ++ [(k, atP l k)] := by simp [shL]
/-- Keepers, all different. -/
def KsOk (ks : List Int) : Prop := ks.Nodup ∧ ∀ k ∈ ks, 1 ≤ k ∧ k ≤ 20
theorem nodup_le : ∀ (n : Nat) (ks : List Int), ks.Nodup → (∀ k ∈ ks, 1 ≤ k ∧ k ≤ (n : Int)) → ks.length ≤ n
  | 0, [], _, _ => Nat.le_refl _
  | 0, a :: r, _, h => by have := h a (by simp); omega
  | n + 1, ks, hn, h => by
    by_cases hm : ((n : Int) + 1) ∈ ks
    · have ih := nodup_le n (ks.erase ((n : Int) + 1)) (hn.erase _) fun k hk => by
        have h1 := (hn.mem_erase_iff).1 hk
        have := h k h1.2
        have := h1.1
        omega
      rw [List.length_erase_of_mem hm] at ih
      omega
    · have := nodup_le n ks hn fun k hk => by
        have h1 := h k hk
        have : k ≠ (n : Int) + 1 := fun e => hm (e ▸ hk)
        omega
      omega
theorem all_ge : ∀ (n : Nat) (ks : List Int), (∀ j : Nat, j < n → ((j : Int) + 1) ∈ ks) → n ≤ ks.length
  | 0, _, _ => Nat.zero_le _
  | n + 1, ks, h => by
    have hm := h n (by omega)
    have ih := all_ge n (ks.erase ((n : Int) + 1)) fun j hj => by
      have := h j (by omega)
      rwa [List.mem_erase_of_ne (by omega)]
    rw [List.length_erase_of_mem hm] at ih
    have : 0 < ks.length := List.length_pos_of_mem hm
    omega
theorem KsOk.le {ks : List Int} (h : KsOk ks) : ks.length ≤ 20 := nodup_le 20 ks h.1 h.2
theorem KsOk.nil : KsOk [] := ⟨List.nodup_nil, fun k h => by simp at h⟩
theorem KsOk.next {ks : List Int} {k : Int} (h : KsOk ks) (hk : 1 ≤ k ∧ k ≤ 20) (hm : ¬ k ∈ ks) : KsOk (ks ++ [k]) := by
  refine ⟨?_, fun x hx => ?_⟩
  · rw [List.nodup_append]
    refine ⟨h.1, by simp, fun a ha b hb => ?_⟩
    simp at hb; subst hb
    exact fun e => hm (e ▸ ha)
  · simp at hx
    rcases hx with hx | rfl
    · exact h.2 x hx
    · exact hk
def kAt (bs : List Int) (i : Nat) : Int := if i < bs.length then 1 + bs.getD i 0 % 20 else 1 + (i : Int) % 20
def smK (bs : List Int) (least : Nat) : Nat → Nat → List Int → List Int
  | 0, _, ks => ks
  | f + 1, i, ks => if i < bs.length ∨ ks.length < least then smK bs least f (i + 1) (if kAt bs i ∈ ks then ks else ks ++ [kAt bs i]) else ks
/-- The keepers that numbers say. -/
def someK (bs : List Int) (least : Nat) : List Int := smK bs least (bs.length + 20) 0 []
theorem smK_end {bs : List Int} {least i : Nat} {ks : List Int} (h : ¬ (i < bs.length ∨ ks.length < least)) : ∀ f, smK bs least f i ks = ks
  | 0 => rfl
  | f + 1 => by simp only [smK]; rw [if_neg h]
theorem smK_old {bs : List Int} {least i f : Nat} {ks : List Int} (h : i < bs.length ∨ ks.length < least) (hf : 0 < f) (hm : kAt bs i ∈ ks) : smK bs least f i ks = smK bs least (f - 1) (i + 1) ks := by
  obtain ⟨g, rfl⟩ : ∃ g, f = g + 1 := ⟨f - 1, by omega⟩
  simp only [smK]; rw [if_pos h, if_pos hm]; rfl
theorem smK_new {bs : List Int} {least i f : Nat} {ks : List Int} (h : i < bs.length ∨ ks.length < least) (hf : 0 < f) (hm : ¬ kAt bs i ∈ ks) : smK bs least f i ks = smK bs least (f - 1) (i + 1) (ks ++ [kAt bs i]) := by
  obtain ⟨g, rfl⟩ : ∃ g, f = g + 1 := ⟨f - 1, by omega⟩
  simp only [smK]; rw [if_pos h, if_neg hm]; rfl
theorem smK_old2 {bs : List Int} {least i N : Nat} {ks X : List Int} (h : i < bs.length ∨ ks.length < least) (hf : i < N) (hm : kAt bs i ∈ ks) (e : smK bs least (N - i) i ks = X) : smK bs least (N - (i + 1)) (i + 1) ks = X := by
  rw [smK_old h (by omega) hm] at e
  rwa [show N - (i + 1) = N - i - 1 by omega]
theorem smK_new2 {bs : List Int} {least i N : Nat} {ks X : List Int} {k : Int} (h : i < bs.length ∨ ks.length < least) (hf : i < N) (hk : kAt bs i = k) (hm : ¬ k ∈ ks) (e : smK bs least (N - i) i ks = X) : smK bs least (N - (i + 1)) (i + 1) (ks ++ [k]) = X := by
  subst hk
  rw [smK_new h (by omega) hm] at e
  rwa [show N - (i + 1) = N - i - 1 by omega]
theorem all_full {bs ks : List Int} {i : Nat} (h : ∀ j : Nat, bs.length ≤ j → j < i → (1 + (j : Int) % 20) ∈ ks) : i = bs.length + 20 → 20 ≤ ks.length := by
  intro hi
  refine all_ge 20 ks fun j hj => ?_
  have := h (bs.length + (j + 20 - bs.length % 20) % 20) (by omega) (by omega)
  have e : (1 + ((bs.length + (j + 20 - bs.length % 20) % 20 : Nat) : Int) % 20) = (j : Int) + 1 := by omega
  rwa [e] at this
theorem kAt_bd {bs : List Int} (hb : ∀ j, 0 ≤ bs.getD j 0 ∧ bs.getD j 0 ≤ 255) (i : Nat) : 1 ≤ kAt bs i ∧ kAt bs i ≤ 20 := by
  have := hb i
  unfold kAt
  split <;> omega
/-- Which keepers have come up. -/
def metK (ks : List Int) : List Value := (List.range 21).map fun (j : Nat) => .bool (decide ((j : Int) ∈ ks))
theorem metK_len (ks : List Int) : (metK ks).length = 21 := by simp [metK]
theorem metK_nil : metK [] = List.replicate 21 (.bool false) := by simp [metK]; rfl
theorem metK_get {ks : List Int} {j : Nat} (h : j < 21) : (metK ks)[j]? = some (.bool (decide ((j : Int) ∈ ks))) := by simp [metK, h]
theorem metK_yes {ks : List Int} {j : Nat} (h : j < 21) (hm : (j : Int) ∈ ks) : (metK ks)[j * 1]? = some (.bool true) := by rw [Nat.mul_one, metK_get h, decide_eq_true hm]
theorem metK_no {ks : List Int} {j : Nat} (h : j < 21) (hm : ¬ (j : Int) ∈ ks) : (metK ks)[j * 1]? = some (.bool false) := by rw [Nat.mul_one, metK_get h, decide_eq_false hm]
theorem metK_set {ks : List Int} {j : Nat} : (metK ks).set j (.bool true) = metK (ks ++ [(j : Int)]) := by
  apply List.ext_getElem?
  intro i
  by_cases hi : i < 21
  · rw [metK_get hi]
    by_cases e : i = j
    · subst e
      rw [List.getElem?_set_self (by rw [metK_len]; exact hi)]
      simp
    · rw [List.getElem?_set_ne (fun x => e x.symm), metK_get hi]
      congr 2
      simp only [List.mem_append, List.mem_singleton]
      refine decide_eq_decide.2 ⟨fun h => .inl h, fun h => h.resolve_right (by omega)⟩
  · rw [List.getElem?_eq_none (by rw [List.length_set, metK_len]; omega), List.getElem?_eq_none (by rw [metK_len]; omega)]
theorem met_next {bs ks : List Int} {i : Nat} {k : Int} (h : ∀ j : Nat, bs.length ≤ j → j < i → (1 + (j : Int) % 20) ∈ ks) (hk : ¬ i < bs.length → 1 + (i : Int) % 20 = k) : ∀ j : Nat, bs.length ≤ j → j < i + 1 → (1 + (j : Int) % 20) ∈ ks ++ [k] := by
  intro j h1 h2
  by_cases e : j = i
  · subst e
    rw [hk (by omega)]; simp
  · exact List.mem_append_left _ (h j h1 (by omega))
theorem met_old {bs ks : List Int} {i : Nat} {k : Int} (h : ∀ j : Nat, bs.length ≤ j → j < i → (1 + (j : Int) % 20) ∈ ks) (hk : ¬ i < bs.length → 1 + (i : Int) % 20 = k) (hm : k ∈ ks) : ∀ j : Nat, bs.length ≤ j → j < i + 1 → (1 + (j : Int) % 20) ∈ ks := by
  intro j h1 h2
  by_cases e : j = i
  · subst e
    rw [hk (by omega)]; exact hm
  · exact h j h1 (by omega)
end Go.Pv
namespace Go.Proofs.Ytngoipmdhliigaa
open Go.Pv Go.RowKit Go.Sort
set_option maxHeartbeats 8000000
set_option maxRecDepth 20000
theorem lmade_any (v : Value) (xs : List Int) (w : World) (h : IntsK .u8 w v xs) (hb : ∀ j, 0 ≤ xs.getD j 0 ∧ xs.getD j 0 ≤ 255) : Ret Try.prog 40 [v] w fun r w' => Pv.Own 3 w.heap.size w' r (lockL xs) := by
  have hv1 := h.one
  have hln := h.len
  have hml : (xs.map (· % 251)).length = xs.length := by simp
  have hst := lock_step xs
  have htl := fun k => List.length_take_le k (xs.map (· % 251))
  have tkL : True := trivial
  refine ret_of_c Try.func40 rfl Try.ntmps40 (Nat.le_of_ble_eq_true rfl) (by dsimp only [ini, Nat.reduceAdd] <;> exact rfl) ?_
  repeat' (first
      | ((with_reducible apply W_split); exact rfl; exact rfl; intro _; rotate_left 1; intro hsx; (all_goals (try (exfalso; (focus (first | exact hsx rfl | omega; done))))))
      | ((with_reducible apply W_op); exact rfl; exact rfl; exact r_lenInts rfl (IntsK.ex (show Ex w _ from (by repeat (first | exact Ex.refl _ | assumption | (refine Ex.of_grown ?_ (by assumption) (by intro k hk; cases hk; omega)) | (refine Ex.trans ?_ (by assumption))))) h))
      | ((with_reducible apply W_op); exact rfl; exact rfl; exact r_lenInts rfl (Pv.Own.ints (Pv.Own.ex (show Ex _ _ from (by repeat (first | exact Ex.refl _ | assumption | (refine Ex.of_grown ?_ (by assumption) (by intro k hk; cases hk; omega)) | (refine Ex.trans ?_ (by assumption))))) hown)))
      | (refine W_indexInt (i := k) (v := v) (xs := xs) rfl (IntsK.ex (show Ex w _ from (by repeat (first | exact Ex.refl _ | assumption | (refine Ex.of_grown ?_ (by assumption) (by intro k hk; cases hk; omega)) | (refine Ex.trans ?_ (by assumption))))) h) rfl (by omega) ?_; intro pq hpq; have hbk := hb k)
      | (refine W_appendO (w0 := w) (base := w.heap.size) (m := xs.getD k 0 % 251) (xs := (xs.map (· % 251)).take k) rfl rfl (Pv.Own.ex (by repeat (first | exact Ex.refl _ | assumption | (refine Ex.of_grown ?_ (by assumption) (by intro k hk; cases hk; omega)) | (refine Ex.trans ?_ (by assumption)))) hown) rfl (by repeat (first | assumption | ((with_reducible apply Bx.grownS); assumption; (first | omega | exact Bx.ne (by assumption) (by omega))) | ((with_reducible apply Bx.below); assumption; omega) | ((with_reducible apply Bx.ex); assumption))) (by have := htl k; omega) (by repeat (first | assumption | exact Ex.refl _ | (refine Ex.trans ?_ (by assumption)) | (refine Ex.of_grown ?_ (by assumption) (by intro k hk; cases hk; omega)))) (by omega) (by omega) ?_; intro r2 wq hown3 hr21 he hkn hgq; have hsz := he.size)
      | ((with_reducible (show C _ _ _ _ _ _)); clear tkL; refine c_loopG (fun (k : Nat) ps wr => ∃ r : Value, ∃ i : Int, ps = [(0, v), (3, r), (4, .int .i64 i)] ∧ i = k ∧ k ≤ xs.length ∧ k ≤ 8 ∧ Pv.Own 3 w.heap.size wr r ((xs.map (· % 251)).take k) ∧ Ex w wr) (fun k => xs.length - k) 0 _ ⟨_, _, rfl, rfl, Nat.zero_le _, Nat.zero_le _, Pv.Own.nil _ _ _, (by repeat (first | assumption | exact Ex.refl _ | (refine Ex.trans ?_ (by assumption)) | (refine Ex.of_grown ?_ (by assumption) (by intro k hk; cases hk; omega))))⟩ ⟨rfl, rfl, rfl, trivial⟩ (by ((conv => lhs; whnf) <;> exact rfl)) (by ((conv => lhs; whnf) <;> exact rfl)) ?_; rintro J hJ k u ps wr ⟨r, i, rfl, rfl, hk, hk8, hown, he⟩; have hsz := he.size)
      | ((first | ((with_reducible apply W_op); exact rfl; exact rfl)); (first | ((with_reducible apply r_conv8); exact rfl; omega) | ((with_reducible apply r_conv16); exact rfl; omega) | ((with_reducible apply r_remE); exact rfl; exact rfl; omega; omega) | ((with_reducible apply r_indexArr); exact rfl; exact rfl; omega) | ((with_reducible apply r_move); ((conv => lhs; whnf) <;> exact rfl)) | ((with_reducible apply r_assign); ((conv => lhs; whnf) <;> exact rfl)) | ((with_reducible apply r_load); exact rfl; exact rfl; (first | assumption | exact (Bx.cell (by repeat (first | assumption | ((with_reducible apply Bx.grownS); assumption; (first | omega | exact Bx.ne (by assumption) (by omega))) | ((with_reducible apply Bx.below); assumption; omega) | ((with_reducible apply Bx.ex); assumption))) _).trans rfl | exact Ex.cell (by assumption) (by assumption))) | ((with_reducible apply r_loadF); exact rfl; (first | assumption | exact (Bx.cell (by repeat (first | assumption | ((with_reducible apply Bx.grownS); assumption; (first | omega | exact Bx.ne (by assumption) (by omega))) | ((with_reducible apply Bx.below); assumption; omega) | ((with_reducible apply Bx.ex); assumption))) _).trans rfl | exact Ex.cell (by assumption) (by assumption))) | ((with_reducible apply r_loadA); exact rfl; (first | assumption | exact Bx.cells (by repeat (first | assumption | ((with_reducible apply Bx.grownS); assumption; (first | omega | exact Bx.ne (by assumption) (by omega))) | ((with_reducible apply Bx.below); assumption; omega) | ((with_reducible apply Bx.ex); assumption))) | exact Cells.ex (by assumption) (by assumption)); exact rfl) | ((with_reducible apply r_lss); exact rfl; exact rfl) | ((with_reducible apply r_eql); exact rfl; exact rfl) | ((with_reducible apply r_add); exact rfl; exact rfl; omega) | ((with_reducible apply r_len); exact rfl) | ((with_reducible apply r_lenStr); exact rfl) | ((with_reducible apply r_lenInts); ((conv => lhs; whnf) <;> exact rfl); (focus ((repeat (first | assumption | ((refine IntsK.exH (by assumption) ?_); (focus ((repeat (first | exact Ex.refl _ | assumption | (refine Ex.of_grown ?_ (by assumption) (by intro k hk; cases hk; omega)) | (refine Ex.trans ?_ (by assumption)))); done))) | ((refine Prs.exH (by assumption) ?_); (focus ((repeat (first | exact Ex.refl _ | assumption | (refine Ex.of_grown ?_ (by assumption) (by intro k hk; cases hk; omega)) | (refine Ex.trans ?_ (by assumption)))); done))) | ((with_reducible apply Bx.grownS); assumption; (first | omega | exact Bx.ne (by assumption) (by omega))) | ((with_reducible apply Bx.below); assumption; omega) | ((with_reducible apply OwnP.grownS); assumption; omega) | ((with_reducible apply Own.grownS); assumption; omega) | ((with_reducible apply Bx.ex); assumption) | ((with_reducible apply IntsK.ex); assumption) | ((with_reducible apply Own.ex); assumption) | ((with_reducible apply Prs.ex); assumption) | ((with_reducible apply OwnP.ex); assumption))); done))) | ((with_reducible apply r_lenPrs); ((conv => lhs; whnf) <;> exact rfl); (focus ((repeat (first | assumption | ((refine IntsK.exH (by assumption) ?_); (focus ((repeat (first | exact Ex.refl _ | assumption | (refine Ex.of_grown ?_ (by assumption) (by intro k hk; cases hk; omega)) | (refine Ex.trans ?_ (by assumption)))); done))) | ((refine Prs.exH (by assumption) ?_); (focus ((repeat (first | exact Ex.refl _ | assumption | (refine Ex.of_grown ?_ (by assumption) (by intro k hk; cases hk; omega)) | (refine Ex.trans ?_ (by assumption)))); done))) | ((with_reducible apply Bx.grownS); assumption; (first | omega | exact Bx.ne (by assumption) (by omega))) | ((with_reducible apply Bx.below); assumption; omega) | ((with_reducible apply OwnP.grownS); assumption; omega) | ((with_reducible apply Own.grownS); assumption; omega) | ((with_reducible apply Bx.ex); assumption) | ((with_reducible apply IntsK.ex); assumption) | ((with_reducible apply Own.ex); assumption) | ((with_reducible apply Prs.ex); assumption) | ((with_reducible apply OwnP.ex); assumption))); done))) | ((with_reducible apply r_pick_true); exact rfl; ((conv => lhs; whnf) <;> exact rfl)) | ((with_reducible apply r_pick_false); exact rfl; ((conv => lhs; whnf) <;> exact rfl)) | ((with_reducible apply r_rem); exact rfl; exact rfl; omega) | ((with_reducible apply r_eqlb); exact rfl; exact rfl) | ((with_reducible apply r_conv); exact rfl) | ((with_reducible apply r_loadSub); exact rfl; (focus ((repeat (first | assumption | ((with_reducible apply Bx.grownS); assumption; (first | omega | exact Bx.ne (by assumption) (by omega))) | ((with_reducible apply Bx.below); assumption; omega) | ((with_reducible apply Bx.ex); assumption))); done)); ((simp only [Nat.add_zero, Nat.zero_add, Nat.reduceAdd, List.drop_zero, List.drop_succ_cons, List.take_succ_cons, List.take_zero]) <;> exact rfl); exact rfl)))
      | ((with_reducible (show Exit.then _ _ _ _ _)); refine n_roundG (k + 1) (hJ _ _ _ _ ⟨_, _, rfl, by omega, by omega, by omega, (by rw [hst k (by omega)]; exact hown3), (by repeat (first | assumption | exact Ex.refl _ | (refine Ex.trans ?_ (by assumption)) | (refine Ex.of_grown ?_ (by assumption) (by intro k hk; cases hk; omega))))⟩ ⟨rfl, rfl, rfl, trivial⟩ rfl) (by omega))
      | (with_reducible apply W_nil)
      | ((with_reducible apply W_indexInt); ((conv => lhs; whnf) <;> exact rfl); (focus ((repeat (first | assumption | ((refine IntsK.exH (by assumption) ?_); (focus ((repeat (first | exact Ex.refl _ | assumption | (refine Ex.of_grown ?_ (by assumption) (by intro k hk; cases hk; omega)) | (refine Ex.trans ?_ (by assumption)))); done))) | ((refine Prs.exH (by assumption) ?_); (focus ((repeat (first | exact Ex.refl _ | assumption | (refine Ex.of_grown ?_ (by assumption) (by intro k hk; cases hk; omega)) | (refine Ex.trans ?_ (by assumption)))); done))) | ((with_reducible apply Bx.grownS); assumption; (first | omega | exact Bx.ne (by assumption) (by omega))) | ((with_reducible apply Bx.below); assumption; omega) | ((with_reducible apply OwnP.grownS); assumption; omega) | ((with_reducible apply Own.grownS); assumption; omega) | ((with_reducible apply Bx.ex); assumption) | ((with_reducible apply IntsK.ex); assumption) | ((with_reducible apply Own.ex); assumption) | ((with_reducible apply Prs.ex); assumption) | ((with_reducible apply OwnP.ex); assumption))); done)); exact rfl; omega; intro pq hpq)
      | ((with_reducible apply W_indexIntss); ((conv => lhs; whnf) <;> exact rfl); assumption; (focus ((repeat (first | assumption | exact Ex.refl _ | (refine Ex.trans ?_ (by assumption)) | (refine Ex.of_grown ?_ (by assumption) (by intro k hk; cases hk; omega)))); done)); exact rfl; omega; intro pq uq hpq huq)
      | ((with_reducible apply W_indexPr); ((conv => lhs; whnf) <;> exact rfl); (focus ((repeat (first | assumption | ((refine IntsK.exH (by assumption) ?_); (focus ((repeat (first | exact Ex.refl _ | assumption | (refine Ex.of_grown ?_ (by assumption) (by intro k hk; cases hk; omega)) | (refine Ex.trans ?_ (by assumption)))); done))) | ((refine Prs.exH (by assumption) ?_); (focus ((repeat (first | exact Ex.refl _ | assumption | (refine Ex.of_grown ?_ (by assumption) (by intro k hk; cases hk; omega)) | (refine Ex.trans ?_ (by assumption)))); done))) | ((with_reducible apply Bx.grownS); assumption; (first | omega | exact Bx.ne (by assumption) (by omega))) | ((with_reducible apply Bx.below); assumption; omega) | ((with_reducible apply OwnP.grownS); assumption; omega) | ((with_reducible apply Own.grownS); assumption; omega) | ((with_reducible apply Bx.ex); assumption) | ((with_reducible apply IntsK.ex); assumption) | ((with_reducible apply Own.ex); assumption) | ((with_reducible apply Prs.ex); assumption) | ((with_reducible apply OwnP.ex); assumption))); done)); exact rfl; omega; intro pq hpq)
      | ((with_reducible apply W_bsP); exact rfl; exact rfl; intro bq wq hbq he hnq; have hltq := Bx.lt hbq; have hsz := he.size)
      | ((with_reducible apply W_pass); exact rfl; exact rfl; exact rfl; exact rfl; exact rfl)
      | ((with_reducible apply W_take); exact rfl; exact rfl; exact rfl)
      | ((with_reducible apply W_passU); exact rfl; exact rfl; exact rfl; exact rfl)
      | ((with_reducible apply W_split); exact rfl; exact rfl; intro _; rotate_left 1; intro _)
      | ((with_reducible apply W_convBytes); exact rfl; (first | assumption | (unfold maxLen; omega)); intro vq wq hvq he; have hsz := he.size)
      | ((with_reducible apply W_bs1); ((conv => lhs; whnf) <;> exact rfl); (first | exact rfl | assumption | exact IntsK.one (by assumption) | exact Prs.one (by assumption) | exact OwnP.one (by assumption) | exact Own.one (by assumption)); decide; decide; exact rfl; exact rfl; ((simp only [lay, lset, List.replicate_succ, List.replicate_zero]) <;> exact rfl); intro bq wq hbq he hnq; have hltq := Bx.lt hbq; have hsz := he.size)
      | (with_reducible apply c_seq)
      | ((with_reducible apply c_region); kernel_rfl)
      | (with_reducible apply n_nq)
      | (with_reducible apply c_block)
      | (with_reducible apply c_skip)
      | (with_reducible apply c_ret)
      | (with_reducible apply c_exit)
      | ((with_reducible apply c_cond_true); exact rfl)
      | ((with_reducible apply c_cond_false); exact rfl)
      | ((with_reducible apply c_cond_dec); exact rfl; intro _; rotate_left 1; intro _)
      | ((with_reducible apply c_cond_bool); exact rfl; intro _; rotate_left 1; intro _)
      | (with_reducible apply n_then)
      | (with_reducible apply n_block)
      | (with_reducible apply e_then)
      | (with_reducible apply e_block)
      | (with_reducible apply r_then)
      | (with_reducible apply r_block)
      | ((with_reducible apply e_block'); decide)
      | ((with_reducible apply p_ret1); exact rfl; exact rfl; ((conv => lhs; whnf) <;> exact rfl); refine ⟨_, rfl, ?_, (by repeat (first | assumption | exact Ex.refl _ | (refine Ex.trans ?_ (by assumption)) | (refine Ex.of_grown ?_ (by assumption) (by intro k hk; cases hk; omega))))⟩)
      | ((with_reducible apply m_ret1); (focus ((repeat (first | assumption | exact Al.nil _ _ | ((with_reducible apply Al.grownS); assumption; (focus ((repeat (first | assumption | ((with_reducible apply Bx.grownS); assumption; (first | omega | exact Bx.ne (by assumption) (by omega))) | ((with_reducible apply Bx.below); assumption; omega) | ((with_reducible apply Bx.ex); assumption))); done))) | (refine Al.ex (by assumption) ?_))); done)); exact rfl; ((conv => lhs; whnf) <;> exact rfl); refine ⟨_, rfl, ?_, (shut_grown _ _ (by repeat (first | assumption | exact Al.nil _ _ | ((with_reducible apply Al.grownS); assumption; (focus ((repeat (first | assumption | ((with_reducible apply Bx.grownS); assumption; (first | omega | exact Bx.ne (by assumption) (by omega))) | ((with_reducible apply Bx.below); assumption; omega) | ((with_reducible apply Bx.ex); assumption))); done))) | (refine Al.ex (by assumption) ?_))) (by repeat (first | assumption | exact Ex.refl _ | (refine Ex.trans ?_ (by assumption)) | (refine Ex.of_grown ?_ (by assumption) (by intro k hk; cases hk; omega)))) (Nat.le_refl _))⟩)
      | ((with_reducible apply p_retct); exact rfl; exact rfl; exact inferInstance; exact inferInstance; exact rfl; (focus ((repeat (first | assumption | ((with_reducible apply Bx.grownS); assumption; (first | omega | exact Bx.ne (by assumption) (by omega))) | ((with_reducible apply Bx.below); assumption; omega) | ((with_reducible apply Bx.ex); assumption))); done)); exact rfl; exact rfl; refine ⟨_, rfl, ?_, (by repeat (first | assumption | exact Ex.refl _ | (refine Ex.trans ?_ (by assumption)) | (refine Ex.of_grown ?_ (by assumption) (by intro k hk; cases hk; omega))))⟩)
      | ((exfalso; omega)))
  all_goals first
    | (have hz := hbq; unfold lockL; rw [if_pos (by have := List.length_take (i := k) (l := xs.map (· % 251)); omega)]; exact Pv.Own.built hbq (by omega))
    | (rw [← lock_fin hk8 hk (by omega) (by have := List.length_take (i := k) (l := xs.map (· % 251)); omega)]; exact Pv.Own.ex (by repeat (first | exact Ex.refl _ | assumption | (refine Ex.of_grown ?_ (by assumption) (by intro k hk; cases hk; omega)) | (refine Ex.trans ?_ (by assumption)))) hown)
    | trace_state
theorem lat_any (v : Value) (xs : List Int) (x : Int) (w : World) (h : Ints w v xs) (hx : nbL xs) (hn : nb x) (hl : xs.length ≤ 1000) : Ret Try.prog 42 [v, .int .i64 x] w fun r _ => r = .int .i64 (atP xs x) := by
  have hv1 := h.one
  have hln := h.len
  have tkL : True := trivial
  refine ret_of_c Try.func42 rfl Try.ntmps42 (Nat.le_of_ble_eq_true rfl) (by dsimp only [ini, Nat.reduceAdd] <;> exact rfl) ?_
  repeat' (first
      | (refine W_indexInt (i := k) (v := v) (xs := xs) rfl (IntsK.ex (by repeat (first | exact Ex.refl _ | assumption | (refine Ex.of_grown ?_ (by assumption) (by intro k hk; cases hk; omega)) | (refine Ex.trans ?_ (by assumption)))) h) rfl (by omega) ?_; intro pq hpq; have tkI : True := trivial; have hck := hx k; (have hc0 : xs.getD k 0 = xs.getD k 0 * pw x 0 % 251 := by (unfold nb at hck; simp only [pw, Int.mul_one]; omega)))
      | ((with_reducible (show C _ _ _ _ _ _)); clear tkI; refine c_loopG (fun (j : Nat) ps wr => ∃ cv j2 : Int, ps = [(0, v), (1, .int .i64 x), (5, .int .i64 (evP (xs.take k) x % 251)), (6, .int .i64 (k : Int)), (7, .int .i64 cv), (8, .int .i64 j2), (9, v), (10, .int .i64 xs.length), (11, .int .i64 (k : Int))] ∧ cv = xs.getD k 0 * pw x j % 251 ∧ (0 ≤ xs.getD k 0 * pw x j % 251 * x ∧ xs.getD k 0 * pw x j % 251 * x ≤ 62500) ∧ j2 = j ∧ j ≤ k ∧ Ex w wr) (fun j => k - j) 0 _ ⟨_, _, rfl, hc0, mul_bd (nb_md _) hn, rfl, Nat.zero_le _, (by repeat (first | assumption | exact Ex.refl _ | (refine Ex.trans ?_ (by assumption)) | (refine Ex.of_grown ?_ (by assumption) (by intro k hk; cases hk; omega))))⟩ ⟨rfl, rfl, rfl, rfl, rfl, rfl, rfl, rfl, rfl, trivial⟩ (by ((conv => lhs; whnf) <;> exact rfl)) (by ((conv => lhs; whnf) <;> exact rfl)) ?_; rintro K2 hK2 j u ps wr ⟨cv, j2, rfl, rfl, hm1, rfl, hj, he⟩; have hsz := he.size)
      | ((with_reducible (show C _ _ _ _ _ _)); clear tkL; refine c_loopG (fun (k : Nat) ps wr => ∃ sv i : Int, ps = [(0, v), (1, .int .i64 x), (5, .int .i64 sv), (9, v), (10, .int .i64 xs.length), (11, .int .i64 i)] ∧ i = k ∧ k ≤ xs.length ∧ sv = evP (xs.take k) x % 251 ∧ Ex w wr) (fun k => xs.length - k) 0 _ ⟨_, _, rfl, rfl, Nat.zero_le _, rfl, (by repeat (first | assumption | exact Ex.refl _ | (refine Ex.trans ?_ (by assumption)) | (refine Ex.of_grown ?_ (by assumption) (by intro k hk; cases hk; omega))))⟩ ⟨rfl, rfl, rfl, rfl, rfl, rfl, trivial⟩ (by ((conv => lhs; whnf) <;> exact rfl)) (by ((conv => lhs; whnf) <;> exact rfl)) ?_; rintro J hJ k u ps wr ⟨sv, i, rfl, rfl, hk, rfl, he⟩; have hsz := he.size)
      | ((first | ((with_reducible apply W_op); exact rfl; exact rfl)); (first | ((with_reducible apply r_remE); exact rfl; exact rfl; omega; omega) | ((with_reducible apply r_indexArr); exact rfl; exact rfl; omega) | ((with_reducible apply r_move); ((conv => lhs; whnf) <;> exact rfl)) | ((with_reducible apply r_assign); ((conv => lhs; whnf) <;> exact rfl)) | ((with_reducible apply r_load); exact rfl; exact rfl; (first | assumption | exact (Bx.cell (by repeat (first | assumption | ((with_reducible apply Bx.grownS); assumption; (first | omega | exact Bx.ne (by assumption) (by omega))) | ((with_reducible apply Bx.below); assumption; omega) | ((with_reducible apply Bx.ex); assumption))) _).trans rfl | exact Ex.cell (by assumption) (by assumption))) | ((with_reducible apply r_loadF); exact rfl; (first | assumption | exact (Bx.cell (by repeat (first | assumption | ((with_reducible apply Bx.grownS); assumption; (first | omega | exact Bx.ne (by assumption) (by omega))) | ((with_reducible apply Bx.below); assumption; omega) | ((with_reducible apply Bx.ex); assumption))) _).trans rfl | exact Ex.cell (by assumption) (by assumption))) | ((with_reducible apply r_loadA); exact rfl; (first | assumption | exact Bx.cells (by repeat (first | assumption | ((with_reducible apply Bx.grownS); assumption; (first | omega | exact Bx.ne (by assumption) (by omega))) | ((with_reducible apply Bx.below); assumption; omega) | ((with_reducible apply Bx.ex); assumption))) | exact Cells.ex (by assumption) (by assumption)); exact rfl) | ((with_reducible apply r_lss); exact rfl; exact rfl) | ((with_reducible apply r_add); exact rfl; exact rfl; omega) | ((with_reducible apply r_len); exact rfl) | ((with_reducible apply r_lenStr); exact rfl) | ((with_reducible apply r_lenInts); ((conv => lhs; whnf) <;> exact rfl); (focus ((repeat (first | assumption | ((refine IntsK.exH (by assumption) ?_); (focus ((repeat (first | exact Ex.refl _ | assumption | (refine Ex.of_grown ?_ (by assumption) (by intro k hk; cases hk; omega)) | (refine Ex.trans ?_ (by assumption)))); done))) | ((refine Prs.exH (by assumption) ?_); (focus ((repeat (first | exact Ex.refl _ | assumption | (refine Ex.of_grown ?_ (by assumption) (by intro k hk; cases hk; omega)) | (refine Ex.trans ?_ (by assumption)))); done))) | ((with_reducible apply Bx.grownS); assumption; (first | omega | exact Bx.ne (by assumption) (by omega))) | ((with_reducible apply Bx.below); assumption; omega) | ((with_reducible apply OwnP.grownS); assumption; omega) | ((with_reducible apply Own.grownS); assumption; omega) | ((with_reducible apply Bx.ex); assumption) | ((with_reducible apply IntsK.ex); assumption) | ((with_reducible apply Own.ex); assumption) | ((with_reducible apply Prs.ex); assumption) | ((with_reducible apply OwnP.ex); assumption))); done))) | ((with_reducible apply r_lenPrs); ((conv => lhs; whnf) <;> exact rfl); (focus ((repeat (first | assumption | ((refine IntsK.exH (by assumption) ?_); (focus ((repeat (first | exact Ex.refl _ | assumption | (refine Ex.of_grown ?_ (by assumption) (by intro k hk; cases hk; omega)) | (refine Ex.trans ?_ (by assumption)))); done))) | ((refine Prs.exH (by assumption) ?_); (focus ((repeat (first | exact Ex.refl _ | assumption | (refine Ex.of_grown ?_ (by assumption) (by intro k hk; cases hk; omega)) | (refine Ex.trans ?_ (by assumption)))); done))) | ((with_reducible apply Bx.grownS); assumption; (first | omega | exact Bx.ne (by assumption) (by omega))) | ((with_reducible apply Bx.below); assumption; omega) | ((with_reducible apply OwnP.grownS); assumption; omega) | ((with_reducible apply Own.grownS); assumption; omega) | ((with_reducible apply Bx.ex); assumption) | ((with_reducible apply IntsK.ex); assumption) | ((with_reducible apply Own.ex); assumption) | ((with_reducible apply Prs.ex); assumption) | ((with_reducible apply OwnP.ex); assumption))); done))) | ((with_reducible apply r_rem); exact rfl; exact rfl; omega) | ((with_reducible apply r_mul); exact rfl; exact rfl; omega) | ((with_reducible apply r_loadSub); exact rfl; (focus ((repeat (first | assumption | ((with_reducible apply Bx.grownS); assumption; (first | omega | exact Bx.ne (by assumption) (by omega))) | ((with_reducible apply Bx.below); assumption; omega) | ((with_reducible apply Bx.ex); assumption))); done)); ((simp only [Nat.add_zero, Nat.zero_add, Nat.reduceAdd, List.drop_zero, List.drop_succ_cons, List.take_succ_cons, List.take_zero]) <;> exact rfl); exact rfl)))
      | ((with_reducible (show Exit.then _ _ _ _ _)); refine n_roundG (j + 1) (hK2 _ _ _ _ ⟨_, _, rfl, pw_step _ _ _, mul_bd (nb_md _) hn, by omega, by omega, (by repeat (first | assumption | exact Ex.refl _ | (refine Ex.trans ?_ (by assumption)) | (refine Ex.of_grown ?_ (by assumption) (by intro k hk; cases hk; omega))))⟩ ⟨rfl, rfl, rfl, rfl, rfl, rfl, rfl, rfl, rfl, trivial⟩ rfl) (by omega))
      | ((with_reducible (show Exit.then _ _ _ _ _)); refine n_roundG (k + 1) (hJ _ _ _ _ ⟨_, _, rfl, by omega, by omega, (by rw [show j = k by omega]; exact sum_next (by omega)), (by repeat (first | assumption | exact Ex.refl _ | (refine Ex.trans ?_ (by assumption)) | (refine Ex.of_grown ?_ (by assumption) (by intro k hk; cases hk; omega))))⟩ ⟨rfl, rfl, rfl, rfl, rfl, rfl, trivial⟩ rfl) (by omega))
      | (with_reducible apply W_nil)
      | ((with_reducible apply W_indexInt); ((conv => lhs; whnf) <;> exact rfl); (focus ((repeat (first | assumption | ((refine IntsK.exH (by assumption) ?_); (focus ((repeat (first | exact Ex.refl _ | assumption | (refine Ex.of_grown ?_ (by assumption) (by intro k hk; cases hk; omega)) | (refine Ex.trans ?_ (by assumption)))); done))) | ((refine Prs.exH (by assumption) ?_); (focus ((repeat (first | exact Ex.refl _ | assumption | (refine Ex.of_grown ?_ (by assumption) (by intro k hk; cases hk; omega)) | (refine Ex.trans ?_ (by assumption)))); done))) | ((with_reducible apply Bx.grownS); assumption; (first | omega | exact Bx.ne (by assumption) (by omega))) | ((with_reducible apply Bx.below); assumption; omega) | ((with_reducible apply OwnP.grownS); assumption; omega) | ((with_reducible apply Own.grownS); assumption; omega) | ((with_reducible apply Bx.ex); assumption) | ((with_reducible apply IntsK.ex); assumption) | ((with_reducible apply Own.ex); assumption) | ((with_reducible apply Prs.ex); assumption) | ((with_reducible apply OwnP.ex); assumption))); done)); exact rfl; omega; intro pq hpq)
      | ((with_reducible apply W_indexIntss); ((conv => lhs; whnf) <;> exact rfl); assumption; (focus ((repeat (first | assumption | exact Ex.refl _ | (refine Ex.trans ?_ (by assumption)) | (refine Ex.of_grown ?_ (by assumption) (by intro k hk; cases hk; omega)))); done)); exact rfl; omega; intro pq uq hpq huq)
      | ((with_reducible apply W_indexPr); ((conv => lhs; whnf) <;> exact rfl); (focus ((repeat (first | assumption | ((refine IntsK.exH (by assumption) ?_); (focus ((repeat (first | exact Ex.refl _ | assumption | (refine Ex.of_grown ?_ (by assumption) (by intro k hk; cases hk; omega)) | (refine Ex.trans ?_ (by assumption)))); done))) | ((refine Prs.exH (by assumption) ?_); (focus ((repeat (first | exact Ex.refl _ | assumption | (refine Ex.of_grown ?_ (by assumption) (by intro k hk; cases hk; omega)) | (refine Ex.trans ?_ (by assumption)))); done))) | ((with_reducible apply Bx.grownS); assumption; (first | omega | exact Bx.ne (by assumption) (by omega))) | ((with_reducible apply Bx.below); assumption; omega) | ((with_reducible apply OwnP.grownS); assumption; omega) | ((with_reducible apply Own.grownS); assumption; omega) | ((with_reducible apply Bx.ex); assumption) | ((with_reducible apply IntsK.ex); assumption) | ((with_reducible apply Own.ex); assumption) | ((with_reducible apply Prs.ex); assumption) | ((with_reducible apply OwnP.ex); assumption))); done)); exact rfl; omega; intro pq hpq)
      | (with_reducible apply c_seq)
      | ((with_reducible apply c_region); kernel_rfl)
      | (with_reducible apply n_nq)
      | (with_reducible apply c_block)
      | (with_reducible apply c_skip)
      | (with_reducible apply c_ret)
      | (with_reducible apply c_exit)
      | ((with_reducible apply c_cond_true); exact rfl)
      | ((with_reducible apply c_cond_false); exact rfl)
      | ((with_reducible apply c_cond_dec); exact rfl; intro _; rotate_left 1; intro _)
      | ((with_reducible apply c_cond_bool); exact rfl; intro _; rotate_left 1; intro _)
      | (with_reducible apply n_then)
      | (with_reducible apply n_block)
      | (with_reducible apply e_then)
      | (with_reducible apply e_block)
      | (with_reducible apply r_then)
      | (with_reducible apply r_block)
      | ((with_reducible apply e_block'); decide)
      | ((with_reducible apply p_ret1); exact rfl; exact rfl; ((conv => lhs; whnf) <;> exact rfl); refine ⟨_, rfl, ?_, (by repeat (first | assumption | exact Ex.refl _ | (refine Ex.trans ?_ (by assumption)) | (refine Ex.of_grown ?_ (by assumption) (by intro k hk; cases hk; omega))))⟩)
      | ((with_reducible apply m_ret1); (focus ((repeat (first | assumption | exact Al.nil _ _ | ((with_reducible apply Al.grownS); assumption; (focus ((repeat (first | assumption | ((with_reducible apply Bx.grownS); assumption; (first | omega | exact Bx.ne (by assumption) (by omega))) | ((with_reducible apply Bx.below); assumption; omega) | ((with_reducible apply Bx.ex); assumption))); done))) | (refine Al.ex (by assumption) ?_))); done)); exact rfl; ((conv => lhs; whnf) <;> exact rfl); refine ⟨_, rfl, ?_, (shut_grown _ _ (by repeat (first | assumption | exact Al.nil _ _ | ((with_reducible apply Al.grownS); assumption; (focus ((repeat (first | assumption | ((with_reducible apply Bx.grownS); assumption; (first | omega | exact Bx.ne (by assumption) (by omega))) | ((with_reducible apply Bx.below); assumption; omega) | ((with_reducible apply Bx.ex); assumption))); done))) | (refine Al.ex (by assumption) ?_))) (by repeat (first | assumption | exact Ex.refl _ | (refine Ex.trans ?_ (by assumption)) | (refine Ex.of_grown ?_ (by assumption) (by intro k hk; cases hk; omega)))) (Nat.le_refl _))⟩)
      | ((with_reducible apply p_retct); exact rfl; exact rfl; exact inferInstance; exact inferInstance; exact rfl; (focus ((repeat (first | assumption | ((with_reducible apply Bx.grownS); assumption; (first | omega | exact Bx.ne (by assumption) (by omega))) | ((with_reducible apply Bx.below); assumption; omega) | ((with_reducible apply Bx.ex); assumption))); done)); exact rfl; exact rfl; refine ⟨_, rfl, ?_, (by repeat (first | assumption | exact Ex.refl _ | (refine Ex.trans ?_ (by assumption)) | (refine Ex.of_grown ?_ (by assumption) (by intro k hk; cases hk; omega))))⟩)
      | ((exfalso; omega)))
  all_goals first
    | (have hkl : k = xs.length := (by omega); subst hkl; rw [List.take_length]; rfl)
    | trace_state
theorem lsome_any (v vb : Value) (l bs : List Int) (least : Nat) (w : World) (h : Ints w v l) (hx : nbL l) (hl : l.length ≤ 1000) (hv : IntsK .u8 w vb bs) (hb : ∀ j, 0 ≤ bs.getD j 0 ∧ bs.getD j 0 ≤ 255) (hle : least ≤ 20) (hbz : bs.length ≤ 1000000000000000000) : Ret Try.prog 41 [v, vb, .int .i64 (least : Int)] w fun r w' => OwnP 61 w.heap.size w' r (shL l (someK bs least)) ∧ KsOk (someK bs least) ∧ least ≤ (someK bs least).length := by
  have hv1 := h.one
  have hv2 := hv.one
  have hln := hv.len
  have hkb := kAt_bd hb
  have tkL : True := trivial
  refine ret_of_c Try.func41 rfl Try.ntmps41 (Nat.le_of_ble_eq_true rfl) (by dsimp only [ini, Nat.reduceAdd] <;> exact rfl) ?_
  repeat' (first
      | ((with_reducible apply W_split); exact rfl; exact rfl; intro _; rotate_left 1; intro hsx; (all_goals (try (exfalso; (focus (first | exact hsx rfl | omega; done))))))
      | ((with_reducible apply c_cond_dec); exact rfl; intro _; rotate_left 1; intro _; (all_goals (try (exfalso; (focus (omega; done))))))
      | (refine W_make (m := 21) (c := List.replicate 21 (.bool false)) rfl rfl (by kernel_rfl) (by decide) (by decide) ?_; intro bm wq hbm he hnm; have hsz := he.size; have hltm := Bx.lt hbm)
      | ((with_reducible apply W_op); exact rfl; exact rfl; exact r_lenInts rfl (IntsK.ex (show Ex w _ from (by repeat (first | exact Ex.refl _ | assumption | (refine Ex.of_grown ?_ (by assumption) (by intro k hk; cases hk; omega)) | (refine Ex.trans ?_ (by assumption))))) hv))
      | ((with_reducible apply W_op); exact rfl; exact rfl; exact r_lenPrs rfl (OwnP.prs (OwnP.ex (show Ex wr _ from (by repeat (first | exact Ex.refl _ | assumption | (refine Ex.of_grown ?_ (by assumption) (by intro k hk; cases hk; omega)) | (refine Ex.trans ?_ (by assumption))))) hown)))
      | (clear tkM; have hbi := hb i; have hki := hkb i; have hsl := shL_len l ks; have hkl := hko.le; have hful := all_full hall; (obtain ⟨ka, hka⟩ : ∃ ka : Nat, kAt bs i = ka := ⟨(kAt bs i).toNat, by omega⟩); have hk1 : i < bs.length → 1 + bs.getD i 0 % 20 = (ka : Int) := (fun hh => by have e := hka; unfold kAt at e; rw [if_pos hh] at e; exact e); have hk2 : ¬ i < bs.length → 1 + (i : Int) % 20 = (ka : Int) := (fun hh => by have e := hka; unfold kAt at e; rw [if_neg hh] at e; exact e); have hend := fun (hh : ¬ (i < bs.length ∨ ks.length < least)) => smK_end (i := i) (ks := ks) hh (bs.length + 20 - i); (by_cases hmem : (ka : Int) ∈ ks))
      | (refine W_indexInt (i := i) (v := vb) (xs := bs) rfl (IntsK.ex (show Ex w _ from (by repeat (first | exact Ex.refl _ | assumption | (refine Ex.of_grown ?_ (by assumption) (by intro k hk; cases hk; omega)) | (refine Ex.trans ?_ (by assumption))))) hv) rfl (by omega) ?_; intro pq hpq)
      | ((with_reducible apply W_op); exact rfl; exact rfl; exact r_indexBx (i := ka) rfl (Eq.trans (b := Value.int .i64 _) rfl (congrArg _ (by omega))) (by omega))
      | ((with_reducible apply W_op); exact rfl; exact rfl; exact r_load rfl rfl ((Bx.cell (by repeat (first | assumption | ((with_reducible apply Bx.grownS); assumption; (first | omega | exact Bx.ne (by assumption) (by omega))) | ((with_reducible apply Bx.below); assumption; omega) | ((with_reducible apply Bx.ex); assumption))) _).trans (metK_no (by omega) hmem)))
      | ((with_reducible apply W_op); exact rfl; exact rfl; exact r_load rfl rfl ((Bx.cell (by repeat (first | assumption | ((with_reducible apply Bx.grownS); assumption; (first | omega | exact Bx.ne (by assumption) (by omega))) | ((with_reducible apply Bx.below); assumption; omega) | ((with_reducible apply Bx.ex); assumption))) _).trans (metK_yes (by omega) hmem)))
      | (refine W_store (o := ka * 1) (v := .bool true) rfl (by repeat (first | assumption | ((with_reducible apply Bx.grownS); assumption; (first | omega | exact Bx.ne (by assumption) (by omega))) | ((with_reducible apply Bx.below); assumption; omega) | ((with_reducible apply Bx.ex); assumption))) (by rw [Nat.mul_one, metK_len]; omega) rfl rfl ?_; intro wq hbm2 hgq; rw [← lset_eq, Nat.mul_one, metK_set] at hbm2; (have hown := OwnP.grownS hgq (by omega) hown); have he : Ex w wq := (by repeat (first | assumption | exact Ex.refl _ | (refine Ex.trans ?_ (by assumption)) | (refine Ex.of_grown ?_ (by assumption) (by intro k hk; cases hk; omega)))); have hsz := he.size)
      | ((with_reducible apply W_appendP); ((conv => lhs; whnf) <;> exact rfl); (focus ((repeat (first | assumption | ((refine IntsK.exH (by assumption) ?_); (focus ((repeat (first | exact Ex.refl _ | assumption | (refine Ex.of_grown ?_ (by assumption) (by intro k hk; cases hk; omega)) | (refine Ex.trans ?_ (by assumption)))); done))) | ((refine Prs.exH (by assumption) ?_); (focus ((repeat (first | exact Ex.refl _ | assumption | (refine Ex.of_grown ?_ (by assumption) (by intro k hk; cases hk; omega)) | (refine Ex.trans ?_ (by assumption)))); done))) | ((with_reducible apply Bx.grownS); assumption; (first | omega | exact Bx.ne (by assumption) (by omega))) | ((with_reducible apply Bx.below); assumption; omega) | ((with_reducible apply OwnP.grownS); assumption; omega) | ((with_reducible apply Own.grownS); assumption; omega) | ((with_reducible apply Bx.ex); assumption) | ((with_reducible apply IntsK.ex); assumption) | ((with_reducible apply Own.ex); assumption) | ((with_reducible apply Prs.ex); assumption) | ((with_reducible apply OwnP.ex); assumption))); done)); exact rfl; (focus ((repeat (first | assumption | ((refine IntsK.exH (by assumption) ?_); (focus ((repeat (first | exact Ex.refl _ | assumption | (refine Ex.of_grown ?_ (by assumption) (by intro k hk; cases hk; omega)) | (refine Ex.trans ?_ (by assumption)))); done))) | ((refine Prs.exH (by assumption) ?_); (focus ((repeat (first | exact Ex.refl _ | assumption | (refine Ex.of_grown ?_ (by assumption) (by intro k hk; cases hk; omega)) | (refine Ex.trans ?_ (by assumption)))); done))) | ((with_reducible apply Bx.grownS); assumption; (first | omega | exact Bx.ne (by assumption) (by omega))) | ((with_reducible apply Bx.below); assumption; omega) | ((with_reducible apply OwnP.grownS); assumption; omega) | ((with_reducible apply Own.grownS); assumption; omega) | ((with_reducible apply Bx.ex); assumption) | ((with_reducible apply IntsK.ex); assumption) | ((with_reducible apply Own.ex); assumption) | ((with_reducible apply Prs.ex); assumption) | ((with_reducible apply OwnP.ex); assumption))); done)); (omega); (focus ((show Ex w _); (repeat (first | assumption | exact Ex.refl _ | (refine Ex.trans ?_ (by assumption)) | (refine Ex.of_grown ?_ (by assumption) (by intro k hk; cases hk; omega)))); done)); omega; (first | omega | exact Bx.lt (by repeat (first | assumption | ((refine IntsK.exH (by assumption) ?_); (focus ((repeat (first | exact Ex.refl _ | assumption | (refine Ex.of_grown ?_ (by assumption) (by intro k hk; cases hk; omega)) | (refine Ex.trans ?_ (by assumption)))); done))) | ((refine Prs.exH (by assumption) ?_); (focus ((repeat (first | exact Ex.refl _ | assumption | (refine Ex.of_grown ?_ (by assumption) (by intro k hk; cases hk; omega)) | (refine Ex.trans ?_ (by assumption)))); done))) | ((with_reducible apply Bx.grownS); assumption; (first | omega | exact Bx.ne (by assumption) (by omega))) | ((with_reducible apply Bx.below); assumption; omega) | ((with_reducible apply OwnP.grownS); assumption; omega) | ((with_reducible apply Own.grownS); assumption; omega) | ((with_reducible apply Bx.ex); assumption) | ((with_reducible apply IntsK.ex); assumption) | ((with_reducible apply Own.ex); assumption) | ((with_reducible apply Prs.ex); assumption) | ((with_reducible apply OwnP.ex); assumption)))); intro vq wq hown he hkq hgq; have hsz := he.size)
      | ((with_reducible (show C _ _ _ _ _ _)); clear tkL; refine c_loopG (fun (i : Nat) ps wr => ∃ ks : List Int, ∃ r : Value, ∃ iv : Int, ps = [(0, v), (1, vb), (2, .int .i64 (least : Int)), (7, .slice (some ⟨bm, 0, none⟩) 21 21), (8, r), (9, .int .i64 iv)] ∧ iv = i ∧ smK bs least (bs.length + 20 - i) i ks = someK bs least ∧ KsOk ks ∧ (∀ j : Nat, bs.length ≤ j → j < i → (1 + (j : Int) % 20) ∈ ks) ∧ i ≤ bs.length + 20 ∧ Bx wr bm (metK ks) 4 ∧ OwnP 61 (bm + 1) wr r (shL l ks) ∧ Ex w wr) (fun i => bs.length + 20 - i) 0 _ ⟨[], _, _, rfl, rfl, rfl, KsOk.nil, (fun j h1 h2 => absurd h2 (Nat.not_lt_zero _)), Nat.zero_le _, (by rw [metK_nil]; exact hbm), OwnP.nil _ _ _, (by repeat (first | assumption | exact Ex.refl _ | (refine Ex.trans ?_ (by assumption)) | (refine Ex.of_grown ?_ (by assumption) (by intro k hk; cases hk; omega))))⟩ ⟨rfl, rfl, rfl, rfl, rfl, rfl, trivial⟩ (by ((conv => lhs; whnf) <;> exact rfl)) (by ((conv => lhs; whnf) <;> exact rfl)) ?_; rintro J hJ i u ps wr ⟨ks, r, iv, rfl, rfl, hsm, hko, hall, hi, hbm, hown, he⟩; have hsz := he.size; have tkM : True := trivial)
      | ((first | ((with_reducible apply W_op); exact rfl; exact rfl)); (first | ((with_reducible apply r_conv8); exact rfl; omega) | ((with_reducible apply r_conv16); exact rfl; omega) | ((with_reducible apply r_remE); exact rfl; exact rfl; omega; omega) | ((with_reducible apply r_indexArr); exact rfl; exact rfl; omega) | ((with_reducible apply r_move); ((conv => lhs; whnf) <;> exact rfl)) | ((with_reducible apply r_assign); ((conv => lhs; whnf) <;> exact rfl)) | ((with_reducible apply r_load); exact rfl; exact rfl; (first | assumption | exact (Bx.cell (by repeat (first | assumption | ((with_reducible apply Bx.grownS); assumption; (first | omega | exact Bx.ne (by assumption) (by omega))) | ((with_reducible apply Bx.below); assumption; omega) | ((with_reducible apply Bx.ex); assumption))) _).trans rfl | exact Ex.cell (by assumption) (by assumption))) | ((with_reducible apply r_loadF); exact rfl; (first | assumption | exact (Bx.cell (by repeat (first | assumption | ((with_reducible apply Bx.grownS); assumption; (first | omega | exact Bx.ne (by assumption) (by omega))) | ((with_reducible apply Bx.below); assumption; omega) | ((with_reducible apply Bx.ex); assumption))) _).trans rfl | exact Ex.cell (by assumption) (by assumption))) | ((with_reducible apply r_loadA); exact rfl; (first | assumption | exact Bx.cells (by repeat (first | assumption | ((with_reducible apply Bx.grownS); assumption; (first | omega | exact Bx.ne (by assumption) (by omega))) | ((with_reducible apply Bx.below); assumption; omega) | ((with_reducible apply Bx.ex); assumption))) | exact Cells.ex (by assumption) (by assumption)); exact rfl) | ((with_reducible apply r_lss); exact rfl; exact rfl) | ((with_reducible apply r_add); exact rfl; exact rfl; omega) | ((with_reducible apply r_len); exact rfl) | ((with_reducible apply r_lenStr); exact rfl) | ((with_reducible apply r_lenInts); ((conv => lhs; whnf) <;> exact rfl); (focus ((repeat (first | assumption | ((refine IntsK.exH (by assumption) ?_); (focus ((repeat (first | exact Ex.refl _ | assumption | (refine Ex.of_grown ?_ (by assumption) (by intro k hk; cases hk; omega)) | (refine Ex.trans ?_ (by assumption)))); done))) | ((refine Prs.exH (by assumption) ?_); (focus ((repeat (first | exact Ex.refl _ | assumption | (refine Ex.of_grown ?_ (by assumption) (by intro k hk; cases hk; omega)) | (refine Ex.trans ?_ (by assumption)))); done))) | ((with_reducible apply Bx.grownS); assumption; (first | omega | exact Bx.ne (by assumption) (by omega))) | ((with_reducible apply Bx.below); assumption; omega) | ((with_reducible apply OwnP.grownS); assumption; omega) | ((with_reducible apply Own.grownS); assumption; omega) | ((with_reducible apply Bx.ex); assumption) | ((with_reducible apply IntsK.ex); assumption) | ((with_reducible apply Own.ex); assumption) | ((with_reducible apply Prs.ex); assumption) | ((with_reducible apply OwnP.ex); assumption))); done))) | ((with_reducible apply r_lenPrs); ((conv => lhs; whnf) <;> exact rfl); (focus ((repeat (first | assumption | ((refine IntsK.exH (by assumption) ?_); (focus ((repeat (first | exact Ex.refl _ | assumption | (refine Ex.of_grown ?_ (by assumption) (by intro k hk; cases hk; omega)) | (refine Ex.trans ?_ (by assumption)))); done))) | ((refine Prs.exH (by assumption) ?_); (focus ((repeat (first | exact Ex.refl _ | assumption | (refine Ex.of_grown ?_ (by assumption) (by intro k hk; cases hk; omega)) | (refine Ex.trans ?_ (by assumption)))); done))) | ((with_reducible apply Bx.grownS); assumption; (first | omega | exact Bx.ne (by assumption) (by omega))) | ((with_reducible apply Bx.below); assumption; omega) | ((with_reducible apply OwnP.grownS); assumption; omega) | ((with_reducible apply Own.grownS); assumption; omega) | ((with_reducible apply Bx.ex); assumption) | ((with_reducible apply IntsK.ex); assumption) | ((with_reducible apply Own.ex); assumption) | ((with_reducible apply Prs.ex); assumption) | ((with_reducible apply OwnP.ex); assumption))); done))) | ((with_reducible apply r_pick_true); exact rfl; ((conv => lhs; whnf) <;> exact rfl)) | ((with_reducible apply r_pick_false); exact rfl; ((conv => lhs; whnf) <;> exact rfl)) | ((with_reducible apply r_not); exact rfl) | ((with_reducible apply r_notb); exact rfl) | ((with_reducible apply r_rem); exact rfl; exact rfl; omega) | ((with_reducible apply r_conv); exact rfl) | ((with_reducible apply r_build2); ((conv => lhs; whnf) <;> exact rfl); ((conv => lhs; whnf) <;> exact rfl); (first | exact rfl | assumption | exact IntsK.one (by assumption) | exact Prs.one (by assumption) | exact OwnP.one (by assumption) | exact Own.one (by assumption)); (first | exact rfl | assumption | exact IntsK.one (by assumption) | exact Prs.one (by assumption) | exact OwnP.one (by assumption) | exact Own.one (by assumption)); exact rfl; exact rfl; ((simp only [lay, lset, List.replicate_succ, List.replicate_zero]) <;> exact rfl)) | ((with_reducible apply r_loadSub); exact rfl; (focus ((repeat (first | assumption | ((with_reducible apply Bx.grownS); assumption; (first | omega | exact Bx.ne (by assumption) (by omega))) | ((with_reducible apply Bx.below); assumption; omega) | ((with_reducible apply Bx.ex); assumption))); done)); ((simp only [Nat.add_zero, Nat.zero_add, Nat.reduceAdd, List.drop_zero, List.drop_succ_cons, List.take_succ_cons, List.take_zero]) <;> exact rfl); exact rfl) | ((with_reducible apply r_bldA); kernel_rfl; ((conv => lhs; whnf) <;> exact rfl); ((conv => lhs; whnf) <;> exact rfl); (first | exact rfl | assumption | exact IntsK.one (by assumption) | exact Prs.one (by assumption) | exact OwnP.one (by assumption) | exact Own.one (by assumption)))))
      | (refine W_callv (lat_any v l (1 + bs.getD i 0 % 20) _ (IntsK.ex (by repeat (first | exact Ex.refl _ | assumption | (refine Ex.of_grown ?_ (by assumption) (by intro k hk; cases hk; omega)) | (refine Ex.trans ?_ (by assumption)))) h) hx (by unfold nb; omega) hl) rfl (fun wq he => ?_); have hsz := he.size)
      | (refine W_callv (lat_any v l (1 + (i : Int) % 20) _ (IntsK.ex (by repeat (first | exact Ex.refl _ | assumption | (refine Ex.of_grown ?_ (by assumption) (by intro k hk; cases hk; omega)) | (refine Ex.trans ?_ (by assumption)))) h) hx (by unfold nb; omega) hl) rfl (fun wq he => ?_); have hsz := he.size)
      | ((with_reducible (show Exit.then _ _ _ _ _)); refine n_roundG (i + 1) (hJ _ _ _ _ ⟨ks ++ [(ka : Int)], _, _, rfl, by omega, smK_new2 (by omega) (by omega) hka hmem hsm, KsOk.next hko (by omega) hmem, met_next hall hk2, by omega, (by repeat (first | assumption | ((with_reducible apply Bx.grownS); assumption; (first | omega | exact Bx.ne (by assumption) (by omega))) | ((with_reducible apply Bx.below); assumption; omega) | ((with_reducible apply Bx.ex); assumption))), (by rw [shL_next]; first | (rw [hk1 (by omega)] at hown; exact hown) | (rw [hk2 (by omega)] at hown; exact hown)), (by repeat (first | assumption | exact Ex.refl _ | (refine Ex.trans ?_ (by assumption)) | (refine Ex.of_grown ?_ (by assumption) (by intro k hk; cases hk; omega))))⟩ ⟨rfl, rfl, rfl, rfl, rfl, rfl, trivial⟩ rfl) (by omega))
      | ((with_reducible (show Exit.then _ _ _ _ _)); refine n_roundG (i + 1) (hJ _ _ _ _ ⟨ks, _, _, rfl, by omega, smK_old2 (by omega) (by omega) (by rw [hka]; exact hmem) hsm, hko, met_old hall hk2 hmem, by omega, (by repeat (first | assumption | ((with_reducible apply Bx.grownS); assumption; (first | omega | exact Bx.ne (by assumption) (by omega))) | ((with_reducible apply Bx.below); assumption; omega) | ((with_reducible apply Bx.ex); assumption))), hown, (by repeat (first | assumption | exact Ex.refl _ | (refine Ex.trans ?_ (by assumption)) | (refine Ex.of_grown ?_ (by assumption) (by intro k hk; cases hk; omega))))⟩ ⟨rfl, rfl, rfl, rfl, rfl, rfl, trivial⟩ rfl) (by omega))
      | (with_reducible apply W_nil)
      | ((with_reducible apply W_indexInt); ((conv => lhs; whnf) <;> exact rfl); (focus ((repeat (first | assumption | ((refine IntsK.exH (by assumption) ?_); (focus ((repeat (first | exact Ex.refl _ | assumption | (refine Ex.of_grown ?_ (by assumption) (by intro k hk; cases hk; omega)) | (refine Ex.trans ?_ (by assumption)))); done))) | ((refine Prs.exH (by assumption) ?_); (focus ((repeat (first | exact Ex.refl _ | assumption | (refine Ex.of_grown ?_ (by assumption) (by intro k hk; cases hk; omega)) | (refine Ex.trans ?_ (by assumption)))); done))) | ((with_reducible apply Bx.grownS); assumption; (first | omega | exact Bx.ne (by assumption) (by omega))) | ((with_reducible apply Bx.below); assumption; omega) | ((with_reducible apply OwnP.grownS); assumption; omega) | ((with_reducible apply Own.grownS); assumption; omega) | ((with_reducible apply Bx.ex); assumption) | ((with_reducible apply IntsK.ex); assumption) | ((with_reducible apply Own.ex); assumption) | ((with_reducible apply Prs.ex); assumption) | ((with_reducible apply OwnP.ex); assumption))); done)); exact rfl; omega; intro pq hpq)
      | ((with_reducible apply W_indexIntss); ((conv => lhs; whnf) <;> exact rfl); assumption; (focus ((repeat (first | assumption | exact Ex.refl _ | (refine Ex.trans ?_ (by assumption)) | (refine Ex.of_grown ?_ (by assumption) (by intro k hk; cases hk; omega)))); done)); exact rfl; omega; intro pq uq hpq huq)
      | ((with_reducible apply W_indexPr); ((conv => lhs; whnf) <;> exact rfl); (focus ((repeat (first | assumption | ((refine IntsK.exH (by assumption) ?_); (focus ((repeat (first | exact Ex.refl _ | assumption | (refine Ex.of_grown ?_ (by assumption) (by intro k hk; cases hk; omega)) | (refine Ex.trans ?_ (by assumption)))); done))) | ((refine Prs.exH (by assumption) ?_); (focus ((repeat (first | exact Ex.refl _ | assumption | (refine Ex.of_grown ?_ (by assumption) (by intro k hk; cases hk; omega)) | (refine Ex.trans ?_ (by assumption)))); done))) | ((with_reducible apply Bx.grownS); assumption; (first | omega | exact Bx.ne (by assumption) (by omega))) | ((with_reducible apply Bx.below); assumption; omega) | ((with_reducible apply OwnP.grownS); assumption; omega) | ((with_reducible apply Own.grownS); assumption; omega) | ((with_reducible apply Bx.ex); assumption) | ((with_reducible apply IntsK.ex); assumption) | ((with_reducible apply Own.ex); assumption) | ((with_reducible apply Prs.ex); assumption) | ((with_reducible apply OwnP.ex); assumption))); done)); exact rfl; omega; intro pq hpq)
      | ((with_reducible apply W_bsP); exact rfl; exact rfl; intro bq wq hbq he hnq; have hltq := Bx.lt hbq; have hsz := he.size)
      | ((with_reducible apply W_storeA); exact rfl; (focus ((repeat (first | assumption | ((with_reducible apply Bx.grownS); assumption; (first | omega | exact Bx.ne (by assumption) (by omega))) | ((with_reducible apply Bx.below); assumption; omega) | ((with_reducible apply Bx.ex); assumption))); done)); exact rfl; exact rfl; exact rfl; (repeat' (first | exact trivial | (first | exact rfl | assumption | exact IntsK.one (by assumption) | exact Prs.one (by assumption) | exact OwnP.one (by assumption) | exact Own.one (by assumption)) | constructor)); intro wq hbq hgq; have he : Ex w wq := (by repeat (first | assumption | exact Ex.refl _ | (refine Ex.trans ?_ (by assumption)) | (refine Ex.of_grown ?_ (by assumption) (by intro k hk; cases hk; omega)))); have hsz := he.size; have hgz := hgq.size)
      | ((with_reducible apply W_store); exact rfl; (focus ((repeat (first | assumption | ((with_reducible apply Bx.grownS); assumption; (first | omega | exact Bx.ne (by assumption) (by omega))) | ((with_reducible apply Bx.below); assumption; omega) | ((with_reducible apply Bx.ex); assumption))); done)); exact Nat.le_of_ble_eq_true rfl; ((conv => lhs; whnf) <;> exact rfl); (first | exact rfl | assumption | exact IntsK.one (by assumption) | exact Prs.one (by assumption) | exact OwnP.one (by assumption) | exact Own.one (by assumption)); simp only [lset]; intro wq hbq hgq; have he : Ex w wq := (by repeat (first | assumption | exact Ex.refl _ | (refine Ex.trans ?_ (by assumption)) | (refine Ex.of_grown ?_ (by assumption) (by intro k hk; cases hk; omega)))); have hsz := he.size; have hgz := hgq.size)
      | ((with_reducible apply W_pass); exact rfl; exact rfl; exact rfl; exact rfl; exact rfl)
      | ((with_reducible apply W_take); exact rfl; exact rfl; exact rfl)
      | ((with_reducible apply W_passU); exact rfl; exact rfl; exact rfl; exact rfl)
      | ((with_reducible apply W_split); exact rfl; exact rfl; intro _; rotate_left 1; intro _)
      | ((with_reducible apply W_convBytes); exact rfl; (first | assumption | (unfold maxLen; omega)); intro vq wq hvq he; have hsz := he.size)
      | ((with_reducible apply W_bs1); ((conv => lhs; whnf) <;> exact rfl); (first | exact rfl | assumption | exact IntsK.one (by assumption) | exact Prs.one (by assumption) | exact OwnP.one (by assumption) | exact Own.one (by assumption)); decide; decide; exact rfl; exact rfl; ((simp only [lay, lset, List.replicate_succ, List.replicate_zero]) <;> exact rfl); intro bq wq hbq he hnq; have hltq := Bx.lt hbq; have hsz := he.size)
      | (with_reducible apply c_seq)
      | ((with_reducible apply c_region); kernel_rfl)
      | (with_reducible apply n_nq)
      | (with_reducible apply c_block)
      | (with_reducible apply c_skip)
      | (with_reducible apply c_ret)
      | (with_reducible apply c_exit)
      | ((with_reducible apply c_cond_true); exact rfl)
      | ((with_reducible apply c_cond_false); exact rfl)
      | ((with_reducible apply c_cond_dec); exact rfl; intro _; rotate_left 1; intro _)
      | ((with_reducible apply c_cond_bool); exact rfl; intro _; rotate_left 1; intro _)
      | (with_reducible apply n_then)
      | (with_reducible apply n_block)
      | (with_reducible apply e_then)
      | (with_reducible apply e_block)
      | (with_reducible apply r_then)
      | (with_reducible apply r_block)
      | ((with_reducible apply e_block'); decide)
      | ((with_reducible apply p_ret1); exact rfl; exact rfl; ((conv => lhs; whnf) <;> exact rfl); refine ⟨_, rfl, ?_, (by repeat (first | assumption | exact Ex.refl _ | (refine Ex.trans ?_ (by assumption)) | (refine Ex.of_grown ?_ (by assumption) (by intro k hk; cases hk; omega))))⟩)
      | ((with_reducible apply m_ret1); (focus ((repeat (first | assumption | exact Al.nil _ _ | ((with_reducible apply Al.grownS); assumption; (focus ((repeat (first | assumption | ((with_reducible apply Bx.grownS); assumption; (first | omega | exact Bx.ne (by assumption) (by omega))) | ((with_reducible apply Bx.below); assumption; omega) | ((with_reducible apply Bx.ex); assumption))); done))) | (refine Al.ex (by assumption) ?_))); done)); exact rfl; ((conv => lhs; whnf) <;> exact rfl); refine ⟨_, rfl, ?_, (shut_grown _ _ (by repeat (first | assumption | exact Al.nil _ _ | ((with_reducible apply Al.grownS); assumption; (focus ((repeat (first | assumption | ((with_reducible apply Bx.grownS); assumption; (first | omega | exact Bx.ne (by assumption) (by omega))) | ((with_reducible apply Bx.below); assumption; omega) | ((with_reducible apply Bx.ex); assumption))); done))) | (refine Al.ex (by assumption) ?_))) (by repeat (first | assumption | exact Ex.refl _ | (refine Ex.trans ?_ (by assumption)) | (refine Ex.of_grown ?_ (by assumption) (by intro k hk; cases hk; omega)))) (Nat.le_refl _))⟩)
      | ((with_reducible apply p_retct); exact rfl; exact rfl; exact inferInstance; exact inferInstance; exact rfl; (focus ((repeat (first | assumption | ((with_reducible apply Bx.grownS); assumption; (first | omega | exact Bx.ne (by assumption) (by omega))) | ((with_reducible apply Bx.below); assumption; omega) | ((with_reducible apply Bx.ex); assumption))); done)); exact rfl; exact rfl; refine ⟨_, rfl, ?_, (by repeat (first | assumption | exact Ex.refl _ | (refine Ex.trans ?_ (by assumption)) | (refine Ex.of_grown ?_ (by assumption) (by intro k hk; cases hk; omega))))⟩)
      | ((exfalso; omega)))
  all_goals first
    | (have hee := (hend (by omega)).symm.trans hsm; subst hee; exact ⟨OwnP.lower hown (by omega), hko, by omega⟩)
    | trace_state
end Go.Proofs.Ytngoipmdhliigaa
