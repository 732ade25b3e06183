/-
  (heavy) (rows) What this text proves: the chapter's examples as values, and their answers. Conditions: none.
-/
import Derived.Test.YtlphfobpheefkaaVBf
import Derived.Test.YtlphfobpheefkaaVAx
set_option linter.unusedVariables false
set_option linter.unusedSimpArgs false
namespace Go.Pv
open Go.RowKit Go.Sort
section
variable {P : Program} {Q : Exit → Act → World → Prop} {ol rest : List Oper} {l : St} {w : World} {ty : TypeId} {pos : String} {af : Array Edge}
/-- A slice of elements whose cells are all given. -/
theorem W_bsG {d N n b : Nat} {e T : TypeId} {z : Value} {ps : List (Nat × Operand)} {qs : List (Nat × Value)} {c : List Value} [hT : Und P T (.slice e)] [hz : Sz P e z n b] (hq : evps l ps = qs) (hN : decide (0 < N * n ∧ N * n ≤ 1000) = true) (hf : Instr.fill (fun i => some (i * n, n)) ((Array.range (N * n)).map (z.cells[· % z.cells.size]!)) qs = some c.toArray)
    (K : ∀ b w', Bx w' b c e → Ex w w' → b = w.heap.size → W P ol Q rest (upd l d (.slice (some ⟨b, 0, none⟩) N N)) w') : W P ol Q (⟨some d, .buildSlice T N ps.toArray, ty, pos, af, none⟩ :: rest) l w := by
  have hN2 := of_decide_eq_true hN
  refine W_run (w' := w.alloc (.cells c.toArray e)) rfl rfl ?_ (K w.heap.size _ (Bx.new w c e) (Ex.alloc _ _) rfl)
  have h1 : ¬ (N * n > 2 ^ 24) := by omega
  have h2 : ¬ (N * n = 0) := by omega
  simp only [execOp, Instr.buildSlice, Sem.run_bind, hT.run, hz.run, Result.andThen_ok, List.map_toArray, map_evps, hq, h1, h2, if_false, hz.zero, Sem.run_pure]
  rw [hf]
  rfl
end
theorem Vals.built {w : World} {b : Nat} {E : TypeId} {xs : List Value} {n : Nat} (h : Bx w b xs E) (hn : n = xs.length) (hm : xs.length ≤ 1000) : Vals w (.slice (some ⟨b, 0, none⟩) n n) xs := by
  subst hn
  unfold Vals Sl
  refine ⟨by unfold maxLen; omega, some ⟨b, 0, none⟩, xs.length, rfl, Nat.le_refl _, by unfold maxLen; omega, fun i hi => ⟨⟨b, 0, none⟩, xs[i], rfl, ?_, rfl⟩⟩
  rw [add_mk, Bx.cell h]
  simp [hi]
def LB : List (Int × Int) := [(1, 5), (3, 9)]
def KB : List (Int × Int) := [(2, 4), (5, 15)]
theorem BLs.one1 {w : World} {v : Value} {xs : List (Int × Int)} (h : Prs w v xs) : BLs w [v] [xs] := ⟨rfl, fun i hi => by
  have : i = 0 := by simp at hi; omega
  subst this; exact h⟩
theorem BLs.two {w : World} {v u : Value} {xs ys : List (Int × Int)} (h : Prs w v xs) (h2 : Prs w u ys) : BLs w [v, u] [xs, ys] := (BLs.one1 h).app (BLs.one1 h2)
/-- Whether a list has bounds. -/
def hasB (l : List (Int × Int)) (d : List Int) : Bool := (List.range l.length).all fun j => (List.range (d.length + 1)).all fun q => decide (q + (l.getD j (0, 0)).1.toNat ≤ d.length → (l.getD j (0, 0)).2 ≤ sumP d q (q + (l.getD j (0, 0)).1.toNat))
theorem hasB_ok {l : List (Int × Int)} {d : List Int} (h : hasB l d = true) : HasP l d := by
  simp only [hasB, List.all_eq_true, List.mem_range, decide_eq_true_eq] at h
  exact fun j hj q hq => h j hj q (by omega) hq
def dW (j : Nat) : List Int := if j = 0 then [5, 4, 0, 5] else []
def cW (j : Nat) : List Int := if j = 0 then [0, 4, 0, 4] else []
theorem pos_w : PosP [LB] [KB] dW cW := by
  refine ⟨fun j hj => ?_, fun j hj => ?_⟩
  · have : j = 0 := by simp at hj; omega
    subst this; exact (keeps_iff _ _).1 (by kernel_rfl)
  · have : j = 0 := by simp at hj; omega
    subst this; exact hasB_ok (by kernel_rfl)
def amtB (xs : List Int) : Bool := (List.range xs.length).all fun j => decide (0 ≤ xs.getD j 0 ∧ xs.getD j 0 ≤ 1000000)
theorem amtB_ok {xs : List Int} (h : amtB xs = true) : amtTo xs xs.length := by
  simp only [amtB, List.all_eq_true, List.mem_range, decide_eq_true_eq] at h
  exact h
theorem crs_zero {pls rs : List (List (Int × Int))} {nd nc n : Nat} {Dm Cp : Nat → List Int} (h : nd = pls.length ∧ nc = rs.length) (h1 : 1 ≤ nd) (hl : (∀ j, j < nd → (Dm j).length = n) ∧ ∀ j, j < nc → (Cp j).length = n) (hn : n ≤ 400) (ha : (∀ j, j < nd → amtTo (Dm j) (Dm j).length) ∧ ∀ j, j < nc → amtTo (Cp j) (Cp j).length) (hp : PosP pls rs Dm Cp) : crsErr pls rs nd nc Dm Cp = 0 := by
  have h0 := hl.1 0 (by omega)
  have a2 : lenTo (allA nd Dm Cp) (Dm 0).length (nd + nc) := fun j hj => by
    unfold allA
    by_cases e : j < nd
    · rw [if_pos e, hl.1 j e, h0]
    · rw [if_neg e, hl.2 (j - nd) (by omega), h0]
  have a4 : amtsTo (allA nd Dm Cp) (nd + nc) := fun j hj => by
    unfold allA
    by_cases e : j < nd
    · rw [if_pos e]; exact ha.1 j e
    · rw [if_neg e]; exact ha.2 (j - nd) (by omega)
  rw [crs_pos h a2 (by omega) a4, pos_yes hp]; rfl
theorem crs_w : crsErr [LB] [KB] 1 1 dW cW = 0 := by
  have e : ∀ j, j < 1 → j = 0 := fun j hj => by omega
  refine crs_zero (n := 4) ⟨rfl, rfl⟩ (Nat.le_refl _) ⟨fun j hj => ?_, fun j hj => ?_⟩ (by omega) ⟨fun j hj => ?_, fun j hj => ?_⟩ pos_w
  · rw [e j hj]; rfl
  · rw [e j hj]; rfl
  · rw [e j hj]; exact amtB_ok (by kernel_rfl)
  · rw [e j hj]; exact amtB_ok (by kernel_rfl)
def lackW : List Int := (List.range 4).map (lkN (inN dW 1) (cO (inN dW 1) (cpN cW) 1))
def delayW : List Int := (List.range 4).map (dyN (inN dW 1) (cO (inN dW 1) (cpN cW) 1) 4)
theorem lack_w : lackW = [5, 5, 5, 6] := by kernel_rfl
theorem delay_w : delayW = [3, -1, -1, -1] := by kernel_rfl
theorem most_w : (List.range 6).map (moN LB) = [0, 5, 9, 9, 14, 18] := by kernel_rfl
theorem least_w : (List.range 6).map (leN KB) = [0, 0, 4, 4, 8, 15] := by kernel_rfl
theorem sort2 (a b : Int) : sortL [a, b] = if a ≤ b then [a, b] else [b, a] := by
  unfold sortL
  simp [List.mergeSort, List.merge, List.MergeSort.Internal.splitInTwo]
theorem cover_w : coverL LB 5 = [1, 1] := by
  unfold coverL
  rw [show idxP (covK LB) 5 = [1, 1] by kernel_rfl, sort2]; rfl
theorem pack_w : packL KB 7 = [0, 1] := by
  unfold packL
  rw [show idxP (packK KB) 7 = [0, 1] by kernel_rfl, sort2]; rfl
theorem row_w : rwTo [KB, KB] 2 3 = 4 := by kernel_rfl
theorem drop_w : dropL [LB] [KB] 6 = (6, 4) := by kernel_rfl
theorem delayL_w : delayL [LB] [KB] 6 = 3 := by kernel_rfl
theorem grow_w : growL (moN LB) 4 = [5, 4, 0, 5] := by kernel_rfl
theorem slow_w : slowL (leN KB) 4 (frS (shTo [KB]) 1 4 0) (partS (shTo [KB]) 1 4 0).toNat = [0, 4, 0, 4] := by kernel_rfl
end Go.Pv
namespace Go.Proofs.Ytlphfobpheefkaa
open Go.Pv Go.RowKit Go.Sort
set_option maxHeartbeats 8000000
set_option maxRecDepth 20000
theorem L_any (w : World) : Ret Try.prog 39 [] w fun r w' => ∃ b, r = .slice (some ⟨b, 0, none⟩) 2 2 ∧ Bx w' b (LB.flatMap pc) 44 ∧ w.heap.size ≤ b := by
  refine ret_of_c Try.func39 rfl Try.ntmps39 (Nat.le_of_ble_eq_true rfl) (by dsimp only [ini, Nat.reduceAdd] <;> exact rfl) ?_
  repeat' (first
      | (refine W_bsG (N := 2) (n := 2) (qs := [(0, .agg #[.int .i64 1, .int .i64 5]), (1, .agg #[.int .i64 3, .int .i64 9])]) (c := [.int .i64 1, .int .i64 5, .int .i64 3, .int .i64 9]) rfl rfl (by kernel_rfl) ?_; intro bS wq hbS he hnq; have hltq := Bx.lt hbS; have hsz := he.size)
      | ((first | ((with_reducible apply W_op); exact rfl; exact rfl)); (first | ((with_reducible apply r_assign); ((conv => lhs; whnf) <;> exact rfl)) | ((with_reducible apply r_build2); ((conv => lhs; whnf) <;> exact rfl); ((conv => lhs; whnf) <;> exact rfl); (first | exact rfl | assumption | exact IntsK.one (by assumption) | exact Prs.one (by assumption) | exact OwnP.one (by assumption) | exact Own.one (by assumption) | exact Row.one (by assumption) | exact OwnR.one (by assumption)); (first | exact rfl | assumption | exact IntsK.one (by assumption) | exact Prs.one (by assumption) | exact OwnP.one (by assumption) | exact Own.one (by assumption) | exact Row.one (by assumption) | exact OwnR.one (by assumption)); exact rfl; exact rfl; ((simp only [lay, lset, List.replicate_succ, List.replicate_zero]) <;> exact rfl))))
      | (with_reducible apply W_nil)
      | (with_reducible apply c_seq)
      | ((with_reducible apply c_region); kernel_rfl)
      | (with_reducible apply n_nq)
      | (with_reducible apply c_ret)
      | (with_reducible apply n_then)
      | ((with_reducible apply p_ret1); exact rfl; exact rfl; ((conv => lhs; whnf) <;> exact rfl); refine ⟨_, rfl, ?_, (by repeat (first | assumption | exact Ex.refl _ | (refine Ex.trans ?_ (by assumption)) | (refine Ex.of_grown ?_ (by assumption) (by intro k hk; cases hk; omega))))⟩))
  all_goals first
    | exact ⟨_, rfl, hbS, by omega⟩
    | trace_state
theorem K_any (w : World) : Ret Try.prog 40 [] w fun r w' => ∃ b, r = .slice (some ⟨b, 0, none⟩) 2 2 ∧ Bx w' b (KB.flatMap pc) 44 ∧ w.heap.size ≤ b := by
  refine ret_of_c Try.func40 rfl Try.ntmps40 (Nat.le_of_ble_eq_true rfl) (by dsimp only [ini, Nat.reduceAdd] <;> exact rfl) ?_
  repeat' (first
      | (refine W_bsG (N := 2) (n := 2) (qs := [(0, .agg #[.int .i64 2, .int .i64 4]), (1, .agg #[.int .i64 5, .int .i64 15])]) (c := [.int .i64 2, .int .i64 4, .int .i64 5, .int .i64 15]) rfl rfl (by kernel_rfl) ?_; intro bS wq hbS he hnq; have hltq := Bx.lt hbS; have hsz := he.size)
      | ((first | ((with_reducible apply W_op); exact rfl; exact rfl)); (first | ((with_reducible apply r_assign); ((conv => lhs; whnf) <;> exact rfl)) | ((with_reducible apply r_build2); ((conv => lhs; whnf) <;> exact rfl); ((conv => lhs; whnf) <;> exact rfl); (first | exact rfl | assumption | exact IntsK.one (by assumption) | exact Prs.one (by assumption) | exact OwnP.one (by assumption) | exact Own.one (by assumption) | exact Row.one (by assumption) | exact OwnR.one (by assumption)); (first | exact rfl | assumption | exact IntsK.one (by assumption) | exact Prs.one (by assumption) | exact OwnP.one (by assumption) | exact Own.one (by assumption) | exact Row.one (by assumption) | exact OwnR.one (by assumption)); exact rfl; exact rfl; ((simp only [lay, lset, List.replicate_succ, List.replicate_zero]) <;> exact rfl))))
      | (with_reducible apply W_nil)
      | (with_reducible apply c_seq)
      | ((with_reducible apply c_region); kernel_rfl)
      | (with_reducible apply n_nq)
      | (with_reducible apply c_ret)
      | (with_reducible apply n_then)
      | ((with_reducible apply p_ret1); exact rfl; exact rfl; ((conv => lhs; whnf) <;> exact rfl); refine ⟨_, rfl, ?_, (by repeat (first | assumption | exact Ex.refl _ | (refine Ex.trans ?_ (by assumption)) | (refine Ex.of_grown ?_ (by assumption) (by intro k hk; cases hk; omega))))⟩))
  all_goals first
    | exact ⟨_, rfl, hbS, by omega⟩
    | trace_state
theorem P_any (w : World) : Ret Try.prog 37 [] w fun r w' => ∃ pv rv us vs, r = .agg #[pv, rv] ∧ Vals w' pv us ∧ BLs w' us [LB] ∧ Vals w' rv vs ∧ BLs w' vs [KB] := by
  have tkA : True := trivial
  have tkB : True := trivial
  refine ret_of_c Try.func37 rfl Try.ntmps37 (Nat.le_of_ble_eq_true rfl) (by dsimp only [ini, Nat.reduceAdd] <;> exact rfl) ?_
  repeat' (first
      | (refine W_call (L_any _) rfl ?_; rintro lv wl ⟨bl, rfl, hlv, hbl⟩ hel; have hsz := hel.size; have hltl := Bx.lt hlv)
      | (refine W_call (K_any _) rfl ?_; rintro kv wk ⟨bk, rfl, hkv, hbk⟩ hek; have hsz := hek.size; have hltk := Bx.lt hkv)
      | (clear tkA; (with_reducible apply W_bs1); ((conv => lhs; whnf) <;> exact rfl); (first | exact rfl | assumption | exact IntsK.one (by assumption) | exact Prs.one (by assumption) | exact OwnP.one (by assumption) | exact Own.one (by assumption) | exact Row.one (by assumption) | exact OwnR.one (by assumption)); decide; decide; exact rfl; exact rfl; ((simp only [lay, lset, List.replicate_succ, List.replicate_zero]) <;> exact rfl); intro b2 wq hbq he hnq; have hltq := Bx.lt hbq; have hsz := he.size; have hx2 := hbq)
      | (clear tkB; (with_reducible apply W_bs1); ((conv => lhs; whnf) <;> exact rfl); (first | exact rfl | assumption | exact IntsK.one (by assumption) | exact Prs.one (by assumption) | exact OwnP.one (by assumption) | exact Own.one (by assumption) | exact Row.one (by assumption) | exact OwnR.one (by assumption)); decide; decide; exact rfl; exact rfl; ((simp only [lay, lset, List.replicate_succ, List.replicate_zero]) <;> exact rfl); intro b4 wq hbq he hnq; have hltq := Bx.lt hbq; have hsz := he.size; have hx4 := hbq)
      | ((first | ((with_reducible apply W_op); exact rfl; exact rfl)); (first | ((with_reducible apply r_build2); ((conv => lhs; whnf) <;> exact rfl); ((conv => lhs; whnf) <;> exact rfl); (first | exact rfl | assumption | exact IntsK.one (by assumption) | exact Prs.one (by assumption) | exact OwnP.one (by assumption) | exact Own.one (by assumption) | exact Row.one (by assumption) | exact OwnR.one (by assumption)); (first | exact rfl | assumption | exact IntsK.one (by assumption) | exact Prs.one (by assumption) | exact OwnP.one (by assumption) | exact Own.one (by assumption) | exact Row.one (by assumption) | exact OwnR.one (by assumption)); exact rfl; exact rfl; ((simp only [lay, lset, List.replicate_succ, List.replicate_zero]) <;> exact rfl))))
      | (with_reducible apply W_nil)
      | ((with_reducible apply W_alloc); exact rfl; intro bq wq hbq he hnq; have hltq := Bx.lt hbq; have hsz := he.size)
      | ((with_reducible apply W_storeA); exact rfl; (focus ((repeat (first | assumption | ((with_reducible apply Bx.grownS); assumption; (first | omega | exact Bx.ne (by assumption) (by omega))) | ((with_reducible apply Bx.below); assumption; omega) | ((with_reducible apply Bx.ex); assumption))); done)); exact rfl; exact rfl; exact rfl; (repeat' (first | exact trivial | (first | exact rfl | assumption | exact IntsK.one (by assumption) | exact Prs.one (by assumption) | exact OwnP.one (by assumption) | exact Own.one (by assumption) | exact Row.one (by assumption) | exact OwnR.one (by assumption)) | constructor)); intro wq hbq hgq; have he : Ex w wq := (by repeat (first | assumption | exact Ex.refl _ | (refine Ex.trans ?_ (by assumption)) | (refine Ex.of_grown ?_ (by assumption) (by intro k hk; cases hk; omega)))); have hsz := he.size; have hgz := hgq.size)
      | (with_reducible apply c_seq)
      | ((with_reducible apply c_region); kernel_rfl)
      | (with_reducible apply n_nq)
      | (with_reducible apply c_ret)
      | (with_reducible apply n_then)
      | ((with_reducible apply p_retc); exact rfl; exact rfl; exact inferInstance; exact inferInstance; exact rfl; (focus ((repeat (first | assumption | ((with_reducible apply Bx.grownS); assumption; (first | omega | exact Bx.ne (by assumption) (by omega))) | ((with_reducible apply Bx.below); assumption; omega) | ((with_reducible apply Bx.ex); assumption))); done)); exact rfl; refine ⟨_, rfl, ?_, (by repeat (first | assumption | exact Ex.refl _ | (refine Ex.trans ?_ (by assumption)) | (refine Ex.of_grown ?_ (by assumption) (by intro k hk; cases hk; omega))))⟩))
  all_goals first
    | refine ⟨_, _, _, _, rfl, Vals.built (E := 22) (show Bx wq b2 [.slice (some ⟨bl, 0, none⟩) 2 2] 22 from (by repeat (first | assumption | ((with_reducible apply Bx.grownS); assumption; (first | omega | exact Bx.ne (by assumption) (by omega))) | ((with_reducible apply Bx.below); assumption; omega) | ((with_reducible apply Bx.ex); assumption)))) rfl (by simp), BLs.one1 (Prs.built (xs := LB) (show Bx wq bl (LB.flatMap pc) 44 from (by repeat (first | assumption | ((with_reducible apply Bx.grownS); assumption; (first | omega | exact Bx.ne (by assumption) (by omega))) | ((with_reducible apply Bx.below); assumption; omega) | ((with_reducible apply Bx.ex); assumption)))) rfl (by decide)), Vals.built (E := 22) (show Bx wq b4 [.slice (some ⟨bk, 0, none⟩) 2 2] 22 from (by repeat (first | assumption | ((with_reducible apply Bx.grownS); assumption; (first | omega | exact Bx.ne (by assumption) (by omega))) | ((with_reducible apply Bx.below); assumption; omega) | ((with_reducible apply Bx.ex); assumption)))) rfl (by simp), BLs.one1 (Prs.built (xs := KB) (show Bx wq bk (KB.flatMap pc) 44 from (by repeat (first | assumption | ((with_reducible apply Bx.grownS); assumption; (first | omega | exact Bx.ne (by assumption) (by omega))) | ((with_reducible apply Bx.below); assumption; omega) | ((with_reducible apply Bx.ex); assumption)))) rfl (by decide))⟩
    | trace_state
theorem Q_any (w : World) : Ret Try.prog 38 [] w fun r w' => ∃ pv rv us vs, r = .agg #[pv, rv] ∧ Vals w' pv us ∧ BLs w' us [LB] ∧ Vals w' rv vs ∧ BLs w' vs [KB, KB] := by
  have tkA : True := trivial
  have tkB : True := trivial
  have tkC : True := trivial
  refine ret_of_c Try.func38 rfl Try.ntmps38 (Nat.le_of_ble_eq_true rfl) (by dsimp only [ini, Nat.reduceAdd] <;> exact rfl) ?_
  repeat' (first
      | (refine W_call (L_any _) rfl ?_; rintro lv wl ⟨bl, rfl, hlv, hbl⟩ hel; have hsz := hel.size; have hltl := Bx.lt hlv)
      | (clear tkC; refine W_call (K_any _) rfl ?_; rintro kv wk ⟨bk, rfl, hkv, hbk⟩ hek; have hsz := hek.size; have hltk := Bx.lt hkv)
      | (refine W_call (K_any _) rfl ?_; rintro kv wk2 ⟨bk2, rfl, hkv2, hbk2⟩ hek2; have hsz := hek2.size; have hltk2 := Bx.lt hkv2)
      | (clear tkA; (with_reducible apply W_bs1); ((conv => lhs; whnf) <;> exact rfl); (first | exact rfl | assumption | exact IntsK.one (by assumption) | exact Prs.one (by assumption) | exact OwnP.one (by assumption) | exact Own.one (by assumption) | exact Row.one (by assumption) | exact OwnR.one (by assumption)); decide; decide; exact rfl; exact rfl; ((simp only [lay, lset, List.replicate_succ, List.replicate_zero]) <;> exact rfl); intro b2 wq hbq he hnq; have hltq := Bx.lt hbq; have hsz := he.size; have hx2 := hbq)
      | (clear tkB; (with_reducible apply W_bs2); ((conv => lhs; whnf) <;> exact rfl); ((conv => lhs; whnf) <;> exact rfl); (first | exact rfl | assumption | exact IntsK.one (by assumption) | exact Prs.one (by assumption) | exact OwnP.one (by assumption) | exact Own.one (by assumption) | exact Row.one (by assumption) | exact OwnR.one (by assumption)); (first | exact rfl | assumption | exact IntsK.one (by assumption) | exact Prs.one (by assumption) | exact OwnP.one (by assumption) | exact Own.one (by assumption) | exact Row.one (by assumption) | exact OwnR.one (by assumption)); decide; decide; exact rfl; exact rfl; ((simp only [lay, lset, List.replicate_succ, List.replicate_zero]) <;> exact rfl); intro b4 wq hbq he hnq; have hltq := Bx.lt hbq; have hsz := he.size; have hx4 := hbq)
      | ((first | ((with_reducible apply W_op); exact rfl; exact rfl)); (first | ((with_reducible apply r_build2); ((conv => lhs; whnf) <;> exact rfl); ((conv => lhs; whnf) <;> exact rfl); (first | exact rfl | assumption | exact IntsK.one (by assumption) | exact Prs.one (by assumption) | exact OwnP.one (by assumption) | exact Own.one (by assumption) | exact Row.one (by assumption) | exact OwnR.one (by assumption)); (first | exact rfl | assumption | exact IntsK.one (by assumption) | exact Prs.one (by assumption) | exact OwnP.one (by assumption) | exact Own.one (by assumption) | exact Row.one (by assumption) | exact OwnR.one (by assumption)); exact rfl; exact rfl; ((simp only [lay, lset, List.replicate_succ, List.replicate_zero]) <;> exact rfl))))
      | (with_reducible apply W_nil)
      | ((with_reducible apply W_alloc); exact rfl; intro bq wq hbq he hnq; have hltq := Bx.lt hbq; have hsz := he.size)
      | ((with_reducible apply W_storeA); exact rfl; (focus ((repeat (first | assumption | ((with_reducible apply Bx.grownS); assumption; (first | omega | exact Bx.ne (by assumption) (by omega))) | ((with_reducible apply Bx.below); assumption; omega) | ((with_reducible apply Bx.ex); assumption))); done)); exact rfl; exact rfl; exact rfl; (repeat' (first | exact trivial | (first | exact rfl | assumption | exact IntsK.one (by assumption) | exact Prs.one (by assumption) | exact OwnP.one (by assumption) | exact Own.one (by assumption) | exact Row.one (by assumption) | exact OwnR.one (by assumption)) | constructor)); intro wq hbq hgq; have he : Ex w wq := (by repeat (first | assumption | exact Ex.refl _ | (refine Ex.trans ?_ (by assumption)) | (refine Ex.of_grown ?_ (by assumption) (by intro k hk; cases hk; omega)))); have hsz := he.size; have hgz := hgq.size)
      | (with_reducible apply c_seq)
      | ((with_reducible apply c_region); kernel_rfl)
      | (with_reducible apply n_nq)
      | (with_reducible apply c_ret)
      | (with_reducible apply n_then)
      | ((with_reducible apply p_retc); exact rfl; exact rfl; exact inferInstance; exact inferInstance; exact rfl; (focus ((repeat (first | assumption | ((with_reducible apply Bx.grownS); assumption; (first | omega | exact Bx.ne (by assumption) (by omega))) | ((with_reducible apply Bx.below); assumption; omega) | ((with_reducible apply Bx.ex); assumption))); done)); exact rfl; refine ⟨_, rfl, ?_, (by repeat (first | assumption | exact Ex.refl _ | (refine Ex.trans ?_ (by assumption)) | (refine Ex.of_grown ?_ (by assumption) (by intro k hk; cases hk; omega))))⟩))
  all_goals first
    | refine ⟨_, _, _, _, rfl, Vals.built (E := 22) (show Bx wq b2 [.slice (some ⟨bl, 0, none⟩) 2 2] 22 from (by repeat (first | assumption | ((with_reducible apply Bx.grownS); assumption; (first | omega | exact Bx.ne (by assumption) (by omega))) | ((with_reducible apply Bx.below); assumption; omega) | ((with_reducible apply Bx.ex); assumption)))) rfl (by simp), BLs.one1 (Prs.built (xs := LB) (show Bx wq bl (LB.flatMap pc) 44 from (by repeat (first | assumption | ((with_reducible apply Bx.grownS); assumption; (first | omega | exact Bx.ne (by assumption) (by omega))) | ((with_reducible apply Bx.below); assumption; omega) | ((with_reducible apply Bx.ex); assumption)))) rfl (by decide)), Vals.built (E := 22) (show Bx wq b4 [.slice (some ⟨bk, 0, none⟩) 2 2, .slice (some ⟨bk2, 0, none⟩) 2 2] 22 from (by repeat (first | assumption | ((with_reducible apply Bx.grownS); assumption; (first | omega | exact Bx.ne (by assumption) (by omega))) | ((with_reducible apply Bx.below); assumption; omega) | ((with_reducible apply Bx.ex); assumption)))) rfl (by simp), BLs.two (Prs.built (xs := KB) (show Bx wq bk (KB.flatMap pc) 44 from (by repeat (first | assumption | ((with_reducible apply Bx.grownS); assumption; (first | omega | exact Bx.ne (by assumption) (by omega))) | ((with_reducible apply Bx.below); assumption; omega) | ((with_reducible apply Bx.ex); assumption)))) rfl (by decide)) (Prs.built (xs := KB) (show Bx wq bk2 (KB.flatMap pc) 44 from (by repeat (first | assumption | ((with_reducible apply Bx.grownS); assumption; (first | omega | exact Bx.ne (by assumption) (by omega))) | ((with_reducible apply Bx.below); assumption; omega) | ((with_reducible apply Bx.ex); assumption)))) rfl (by decide))⟩
    | trace_state
/-- Two lists are equal, number by number. -/
theorem numbers_any (va vb : Value) (a b : List Int) (w : World) (ha : Ints w va a) (hb : Ints w vb b) : Ret Try.prog 34 [va, vb] w fun r _ => r = .bool (decide (a = b)) := by
  have hl1 := ha.len
  have hl2 := hb.len
  have ha1 := ha.one
  have hb1 := hb.one
  have tkA : True := trivial
  refine ret_of_c Try.func34 rfl Try.ntmps34 (Nat.le_of_ble_eq_true rfl) (by dsimp only [ini, Nat.reduceAdd] <;> exact rfl) ?_
  repeat' (first
      | ((with_reducible apply W_op); exact rfl; exact rfl; first | exact r_lenInts rfl (IntsK.ex (show Ex w _ from (by repeat (first | exact Ex.refl _ | assumption | (refine Ex.of_grown ?_ (by assumption) (by intro k hk; cases hk; omega)) | (refine Ex.trans ?_ (by assumption))))) ha) | exact r_lenInts rfl (IntsK.ex (show Ex w _ from (by repeat (first | exact Ex.refl _ | assumption | (refine Ex.of_grown ?_ (by assumption) (by intro k hk; cases hk; omega)) | (refine Ex.trans ?_ (by assumption))))) hb))
      | ((with_reducible apply WQ_indexInt); exact rfl; exact IntsK.ex (show Ex w _ from (by repeat (first | exact Ex.refl _ | assumption | (refine Ex.of_grown ?_ (by assumption) (by intro k hk; cases hk; omega)) | (refine Ex.trans ?_ (by assumption))))) ha; exact rfl; omega; intro pq hpq)
      | ((with_reducible apply WQ_indexInt); exact rfl; exact IntsK.ex (show Ex w _ from (by repeat (first | exact Ex.refl _ | assumption | (refine Ex.of_grown ?_ (by assumption) (by intro k hk; cases hk; omega)) | (refine Ex.trans ?_ (by assumption))))) hb; exact rfl; omega; intro pq2 hpq2)
      | ((with_reducible (show C _ _ _ _ _ _)); clear tkA; refine c_loopG (fun (k : Nat) ps wr => ∃ i : Int, ps = [(0, va), (1, vb), (5, .int .i64 i)] ∧ i = k ∧ k ≤ a.length ∧ a.length = b.length ∧ (∀ j, j < k → a.getD j 0 = b.getD j 0) ∧ Ex w wr) (fun k => a.length - k) 0 _ ⟨_, rfl, rfl, Nat.zero_le _, by omega, (fun j hj => absurd hj (Nat.not_lt_zero _)), (by repeat (first | assumption | exact Ex.refl _ | (refine Ex.trans ?_ (by assumption)) | (refine Ex.of_grown ?_ (by assumption) (by intro k hk; cases hk; omega))))⟩ ⟨rfl, rfl, rfl, trivial⟩ (by ((conv => lhs; whnf) <;> exact rfl)) (by ((conv => lhs; whnf) <;> exact rfl)) ?_; rintro J hJ k u ps wr ⟨i, rfl, rfl, hk, hab, hall, he⟩; have hsz := he.size)
      | ((first | ((with_reducible apply W_op); exact rfl; exact rfl) | ((with_reducible apply WQ_op); exact rfl; exact rfl; intro wq he) | ((with_reducible apply WM_op); exact rfl; exact rfl; intro wq he) | ((with_reducible apply WB_op); exact rfl; exact rfl; intro wq)); (first | ((with_reducible apply r_move); ((conv => lhs; whnf) <;> exact rfl)) | ((with_reducible apply r_assign); ((conv => lhs; whnf) <;> exact rfl)) | ((with_reducible apply r_load); exact rfl; exact rfl; (first | assumption | exact (Bx.cell (by repeat (first | assumption | ((with_reducible apply Bx.grownS); assumption; (first | omega | exact Bx.ne (by assumption) (by omega))) | ((with_reducible apply Bx.below); assumption; omega) | ((with_reducible apply Bx.ex); assumption))) _).trans rfl | exact Ex.cell (by assumption) (by assumption))) | ((with_reducible apply r_lss); exact rfl; exact rfl) | ((with_reducible apply r_neq); exact rfl; exact rfl) | ((with_reducible apply r_add); exact rfl; exact rfl; omega)))
      | ((with_reducible (show Exit.then _ _ _ _ _)); refine n_roundG (k + 1) (hJ _ _ _ _ ⟨_, rfl, by omega, by omega, hab, (fun j hj => by rcases Nat.lt_succ_iff_lt_or_eq.1 hj with h1 | rfl; (exact hall j h1); omega), (by repeat (first | assumption | exact Ex.refl _ | (refine Ex.trans ?_ (by assumption)) | (refine Ex.of_grown ?_ (by assumption) (by intro k hk; cases hk; omega))))⟩ ⟨rfl, rfl, rfl, trivial⟩ rfl) (by omega))
      | (with_reducible apply W_nil)
      | ((with_reducible apply WQ_nil); exact rfl; intro wq he; have hsz := he.size)
      | ((with_reducible apply c_quiet); kernel_rfl)
      | (with_reducible apply c_seq)
      | ((with_reducible apply c_region); kernel_rfl)
      | (with_reducible apply n_nq)
      | (with_reducible apply c_block)
      | (with_reducible apply c_skip)
      | (with_reducible apply c_ret)
      | (with_reducible apply c_exit)
      | ((with_reducible apply c_cond_dec); exact rfl; intro _; rotate_left 1; intro _)
      | (with_reducible apply n_then)
      | (with_reducible apply n_block)
      | (with_reducible apply e_then)
      | (with_reducible apply e_block)
      | (with_reducible apply r_then)
      | (with_reducible apply r_block)
      | ((with_reducible apply p_ret1); exact rfl; exact rfl; ((conv => lhs; whnf) <;> exact rfl); refine ⟨_, rfl, ?_, (by repeat (first | assumption | exact Ex.refl _ | (refine Ex.trans ?_ (by assumption)) | (refine Ex.of_grown ?_ (by assumption) (by intro k hk; cases hk; omega))))⟩))
  all_goals first
    | exact bool_tt (ext_getD hab fun j hj => hall j (by omega))
    | exact bool_ff fun e => absurd (congrArg (fun l => l.getD k 0) e) (by assumption)
    | exact bool_ff fun e => by have := congrArg List.length e; omega
    | trace_state
end Go.Proofs.Ytlphfobpheefkaa
