/-
  (heavy) What this text proves: the law VaultAlarm returns true. Conditions: the values read as lists.
-/
import Derived.Test.YtngoipmdhliigaaVHe
import Derived.Test.YtngoipmdhliigaaVHs
import Derived.Test.YtngoipmdhliigaaVJx
set_option linter.unusedVariables false
set_option linter.unusedSimpArgs false
namespace Go.Pv
open Go.RowKit
/-- Two polynomials that are the same at as many keepers as they have coefficients are the same. -/
theorem poly_same {sh b : List (Int × Int)} {P c : List Int} (hd : Dist (kS sh)) (hb : b.Sublist sh) (hl : b.length = c.length) (hP : P.length = c.length) (h1 : nbL P) (h2 : nbL c) (h : ∀ x ∈ b, atP P x.1 = atP c x.1) : P = c := by
  have hdb := Dist.sub hb hd
  refine poly_eq (xs := kS b) hP (by rw [kS_len]; omega) hdb (fun i hi => ?_) (fun i _ => nb_lt (h1 i)) fun i _ => nb_lt (h2 i)
  rw [kS_len] at hi
  rw [kS_get]
  have e : b.getD i (0, 0) = b[i] := by simp [hi]
  rw [e]
  exact (atP_cg _ _).symm.trans ((show Cg (atP P b[i].1) (atP c b[i].1) from by rw [h _ (List.getElem_mem hi)]; exact Cg.refl _).trans (atP_cg _ _))
theorem set_key {sh : List (Int × Int)} {i : Nat} {v : Int} : kS (sh.set i ((sh.getD i (0, 0)).1, v)) = kS sh := by
  unfold kS
  rw [List.map_set]
  by_cases hi : i < sh.length
  · have e : (sh.getD i (0, 0)).1 = (sh.map (·.1))[i]'(by simpa using hi) := by simp [hi]
    show (sh.map (·.1)).set i (sh.getD i (0, 0)).1 = _
    rw [e, List.set_getElem_self]
  · rw [List.set_eq_of_length_le (by simpa using Nat.le_of_not_lt hi)]
theorem set_ok {sh : List (Int × Int)} {i : Nat} {v : Int} (h : ShOk sh) (hv : 0 ≤ v ∧ v ≤ 250) : ShOk (sh.set i ((sh.getD i (0, 0)).1, v)) := by
  refine ⟨by rw [set_key]; exact h.1, fun j => ?_⟩
  by_cases hj : i = j
  · subst hj
    by_cases hi : i < sh.length
    · simpa [List.getD, hi] using hv
    · rw [List.set_eq_of_length_le (by omega)]; exact h.2 i
  · have e : (sh.set i ((sh.getD i (0, 0)).1, v)).getD j (0, 0) = sh.getD j (0, 0) := by simp [List.getD, List.getElem?_set, hj]
    rw [e]; exact h.2 j
/-- A single changed share is noticed. -/
theorem alarm_no {c ks : List Int} {i : Nat} {v : Int} (hk : KsOk ks) (hb : nbL c) (h1 : 1 ≤ c.length) (hl : c.length + 1 ≤ ks.length) (hi : i < ks.length) (hv : 0 ≤ v ∧ v ≤ 250) (hne : v ≠ ((shL c ks).getD i (0, 0)).2) : ¬ agreeP c.length ((shL c ks).set i (((shL c ks).getD i (0, 0)).1, v)) := by
  intro ha
  have hok := set_ok (i := i) (shL_ok c hk) hv
  obtain ⟨sh, hsh⟩ : ∃ q, q = shL c ks := ⟨_, rfl⟩
  have hsl : sh.length = ks.length := by rw [hsh, shL_len]
  rw [← hsh] at ha hok hne
  have hat := agree_inv hok.dist h1 (by rw [List.length_set]; omega) ha
  have hds : Dist (kS sh) := by rw [hsh]; exact (shL_ok c hk).dist
  have hP := rest_len (sh := sh.set i ((sh.getD i (0, 0)).1, v)) h1 (by rw [List.length_set]; omega)
  have hPn := rest_nb c.length (sh.set i ((sh.getD i (0, 0)).1, v))
  obtain ⟨P, hPe⟩ : ∃ P, P = restL c.length (sh.set i ((sh.getD i (0, 0)).1, v)) := ⟨_, rfl⟩
  rw [← hPe] at hat hP hPn
  have hPc : P = c := by
    refine poly_same (sh := sh) (b := (sh.eraseIdx i).take c.length) hds ((List.take_sublist _ _).trans (List.eraseIdx_sublist _ _)) ?_ hP hPn hb fun x hx => ?_
    · rw [List.length_take, List.length_eraseIdx, if_pos (by omega)]; omega
    · have hx2 := List.mem_of_mem_take hx
      obtain ⟨j, hj, hji, rfl⟩ := List.mem_eraseIdx_iff_getElem.1 hx2
      have h3 := hat j (by rw [List.length_set]; exact hj)
      have e : (sh.set i ((sh.getD i (0, 0)).1, v)).getD j (0, 0) = sh[j] := by simp [List.getD, List.getElem?_set, Ne.symm hji, hj]
      rw [e] at h3
      have h4 := shL_at (l := c) (ks := ks) (i := j) (by rw [shL_len]; omega)
      rw [← hsh] at h4
      have e2 : sh.getD j (0, 0) = sh[j] := by simp [hj]
      rw [e2] at h4
      rw [h3, h4]
  have h5 := hat i (by rw [List.length_set]; omega)
  have e : (sh.set i ((sh.getD i (0, 0)).1, v)).getD i (0, 0) = ((sh.getD i (0, 0)).1, v) := by simp [List.getD, show i < sh.length by omega]
  rw [e, hPc] at h5
  have h6 := shL_at (l := c) (ks := ks) (i := i) (by rw [shL_len]; omega)
  rw [← hsh] at h6
  exact hne (h5.symm.trans h6)
end Go.Pv
namespace Go.Proofs.Ytngoipmdhliigaa
open Go.Pv Go.RowKit Go.Sort
set_option maxHeartbeats 8000000
set_option maxRecDepth 20000
theorem lawAlarm_any (v vb : Value) (xs bs : List Int) (wh ch : Int) (w : World) (h : IntsK .u8 w v xs) (hb : ∀ j, 0 ≤ xs.getD j 0 ∧ xs.getD j 0 ≤ 255) (hv : IntsK .u8 w vb bs) (hbb : ∀ j, 0 ≤ bs.getD j 0 ∧ bs.getD j 0 ≤ 255) (h0 : 0 ≤ wh ∧ wh ≤ 255) (h1 : 0 ≤ ch ∧ ch ≤ 255) (hbz : bs.length ≤ 1000000000000000000) : Ret Try.prog 12 [v, vb, .int .u8 wh, .int .u8 ch] w fun r _ => r = .bool true := by
  have hv1 := h.one
  have hv2 := hv.one
  have hM := fun w2 (e : Ex w w2) => lmade_any v xs w2 (IntsK.ex e h) hb
  have hln := lockL_len xs
  have hnb := lockL_nb xs
  obtain ⟨c, hc⟩ : ∃ c, c = lockL xs := ⟨_, rfl⟩
  rw [← hc] at hln hnb
  simp only [← hc] at hM
  have hS : ∀ cv w2, Ex w w2 → Ints w2 cv c → Ret Try.prog 41 [cv, vb, .int .i64 ((c.length : Int) + 1)] w2 fun r w' => OwnP 61 w2.heap.size w' r (shL c (someK bs (c.length + 1))) := fun cv w2 e hcv =>
    (lsome_any cv vb c bs (c.length + 1) w2 hcv hnb (by omega) (IntsK.ex e hv) hbb (by omega) hbz).monoU fun r _ _ hr => hr.1
  have hok := someK_ok (least := c.length + 1) hbb (by omega)
  obtain ⟨ks, hks⟩ : ∃ ks, ks = someK bs (c.length + 1) := ⟨_, rfl⟩
  rw [← hks] at hok
  simp only [← hks] at hS
  have hsl := shL_len c ks
  have hsk := shL_ok c hok.1
  have hkl := hok.1.le
  obtain ⟨i0, hi0⟩ : ∃ i0 : Nat, wh % ((shL c ks).length : Int) = i0 := ⟨(wh % ((shL c ks).length : Int)).toNat, by have := Int.emod_nonneg wh (b := ((shL c ks).length : Int)) (by omega); omega⟩
  have hi1 : i0 < (shL c ks).length := by have := Int.emod_lt_of_pos wh (b := ((shL c ks).length : Int)) (by omega); omega
  have hob := hsk.2 i0
  obtain ⟨ov, hov⟩ : ∃ q, q = ((shL c ks).getD i0 (0, 0)).2 := ⟨_, rfl⟩
  obtain ⟨nv, hnv⟩ : ∃ q, q = (ov + 1 + ch % 250) % 251 := ⟨_, rfl⟩
  rw [← hov] at hob
  have hnn : ¬ agreeP c.length ((shL c ks).set i0 (((shL c ks).getD i0 (0, 0)).1, nv)) := alarm_no hok.1 hnb hln.1 hok.2 (by omega) (by omega) (by rw [← hov]; omega)
  have hk2 : ShOk ((shL c ks).set i0 (((shL c ks).getD i0 (0, 0)).1, nv)) := set_ok hsk (by omega)
  have hl2 : ((shL c ks).set i0 (((shL c ks).getD i0 (0, 0)).1, nv)).length = ks.length := by rw [List.length_set, hsl]
  obtain ⟨s2, hs2⟩ : ∃ q, q = (shL c ks).set i0 (((shL c ks).getD i0 (0, 0)).1, nv) := ⟨_, rfl⟩
  rw [← hs2] at hnn hk2 hl2
  have hA1 : ∀ sv w2, Prs w2 sv (shL c ks) → Ret Try.prog 24 [.int .i64 (c.length : Int), sv] w2 fun r w' => r = .tuple #[.bool true, .int .i64 0] := fun sv w2 e => by
    have := Agree_any (c.length : Int) sv (shL c ks) w2 e
    rwa [hsk.chk (by omega), decide_eq_true ⟨rfl, by rw [Int.toNat_natCast]; exact shL_agree hok.1 hnb hln.1⟩] at this
  have hA2 : ∀ sv w2, Prs w2 sv s2 → Ret Try.prog 24 [.int .i64 (c.length : Int), sv] w2 fun r w' => r = .tuple #[.bool false, .int .i64 0] := fun sv w2 e => by
    have := Agree_any (c.length : Int) sv s2 w2 e
    rwa [hk2.chk (by omega), decide_eq_false (fun hh => hnn (by have := hh.2; rwa [Int.toNat_natCast] at this))] at this
  have hRe : ∀ sv w2, Prs w2 sv s2 → Ret Try.prog 27 [.int .i64 (c.length : Int), sv] w2 fun r w' => ∃ u, r = .tuple #[u, .int .i64 15] ∧ Ints w' u [] := fun sv w2 e => by
    have := Restore_any (c.length : Int) sv s2 w2 e
    have e0 : whole (c.length : Int) s2 = 15 := by
      unfold whole
      rw [hk2.chk (by omega), if_neg (by decide), if_neg (by omega), Int.toNat_natCast, if_neg hnn]
    rwa [e0, if_neg (by decide)] at this
  have hPo : ∀ sv w2, Prs w2 sv s2 → Ret Try.prog 32 [.int .i64 (c.length : Int), sv] w2 fun r w' => ∃ u, r = .tuple #[u, .int .i64 0] ∧ Ints w' u [] := fun sv w2 e => by
    have := Possible_any (c.length : Int) sv s2 w2 e
    have e0 : possL c.length s2 = [] := by unfold possL; rw [if_neg (by omega), if_neg hnn]
    rw [hk2.chk (by omega), if_pos rfl, Int.toNat_natCast, e0] at this
    exact this.monoU fun r _ _ ⟨u, e, h⟩ => ⟨u, e, Pv.Own.ints h⟩
  clear hc hks hnn hk2 hsk
  refine ret_of_c Try.func12 rfl Try.ntmps12 (Nat.le_of_ble_eq_true rfl) (by dsimp only [ini, Nat.reduceAdd] <;> exact rfl) ?_
  repeat' (first
      | ((with_reducible apply W_split); exact rfl; exact rfl; intro hsy; rotate_left 1; intro hsx; (all_goals (try (exfalso; (focus (first | exact hsx rfl | exact hsy rfl | omega; done))))))
      | ((with_reducible apply W_op); exact rfl; exact rfl; exact r_lenInts rfl (IntsK.ex (show Ex wc _ from (by repeat (first | exact Ex.refl _ | assumption | (refine Ex.of_grown ?_ (by assumption) (by intro k hk; cases hk; omega)) | (refine Ex.trans ?_ (by assumption))))) hci))
      | (clear tkA; refine W_callv (hA1 _ _ (Prs.ex (show Ex ws _ from (by repeat (first | exact Ex.refl _ | assumption | (refine Ex.of_grown ?_ (by assumption) (by intro k hk; cases hk; omega)) | (refine Ex.trans ?_ (by assumption))))) hsi)) rfl (fun wq he => ?_); have hsz := he.size)
      | ((with_reducible apply W_op); exact rfl; exact rfl; exact r_lenPrs rfl (Prs.ex (show Ex ws _ from (by repeat (first | exact Ex.refl _ | assumption | (refine Ex.of_grown ?_ (by assumption) (by intro k hk; cases hk; omega)) | (refine Ex.trans ?_ (by assumption))))) hsi))
      | ((with_reducible apply W_op); exact rfl; exact rfl; exact r_indexOP (i := i0) rfl (Eq.trans (b := Value.int .i64 _) rfl (congrArg _ hi0)) (by omega))
      | ((with_reducible apply W_op); exact rfl; exact rfl; exact r_load rfl rfl (Ex.cell (show Ex ws _ from (by repeat (first | exact Ex.refl _ | assumption | (refine Ex.of_grown ?_ (by assumption) (by intro k hk; cases hk; omega)) | (refine Ex.trans ?_ (by assumption))))) hcell1))
      | (refine W_storeOP1 (i := i0) (m := nv) (w0 := wc) (base := wc.heap.size) (xs := shL c ks) (show Ex wc _ from (by repeat (first | exact Ex.refl _ | assumption | (refine Ex.of_grown ?_ (by assumption) (by intro k hk; cases hk; omega)) | (refine Ex.trans ?_ (by assumption))))) (Nat.le_refl _) (OwnP.ex (show Ex ws _ from (by repeat (first | exact Ex.refl _ | assumption | (refine Ex.of_grown ?_ (by assumption) (by intro k hk; cases hk; omega)) | (refine Ex.trans ?_ (by assumption))))) hso) rfl hi1 (Eq.trans (b := Value.int .i64 _) rfl (congrArg _ (by omega))) ?_; intro wt hst het hgt; rw [← hs2] at hst; have hti := hst.prs; have hsz := het.size)
      | ((with_reducible apply W_op); exact rfl; exact rfl; exact r_lenInts rfl hup)
      | ((first | ((with_reducible apply W_op); exact rfl; exact rfl)); (first | ((with_reducible apply r_conv8); exact rfl; omega) | ((with_reducible apply r_conv16); exact rfl; omega) | ((with_reducible apply r_remE); exact rfl; exact rfl; omega; omega) | ((with_reducible apply r_indexArr); exact rfl; exact rfl; omega) | ((with_reducible apply r_move); ((conv => lhs; whnf) <;> exact rfl)) | ((with_reducible apply r_assign); ((conv => lhs; whnf) <;> exact rfl)) | ((with_reducible apply r_fieldAddr); exact rfl) | ((with_reducible apply r_load); exact rfl; exact rfl; (first | assumption | exact (Bx.cell (by repeat (first | assumption | ((with_reducible apply Bx.grownS); assumption; (first | omega | exact Bx.ne (by assumption) (by omega))) | ((with_reducible apply Bx.below); assumption; omega) | ((with_reducible apply Bx.ex); assumption))) _).trans rfl | exact Ex.cell (by assumption) (by assumption))) | ((with_reducible apply r_loadF); exact rfl; (first | assumption | exact (Bx.cell (by repeat (first | assumption | ((with_reducible apply Bx.grownS); assumption; (first | omega | exact Bx.ne (by assumption) (by omega))) | ((with_reducible apply Bx.below); assumption; omega) | ((with_reducible apply Bx.ex); assumption))) _).trans rfl | exact Ex.cell (by assumption) (by assumption))) | ((with_reducible apply r_loadA); exact rfl; (first | assumption | exact Bx.cells (by repeat (first | assumption | ((with_reducible apply Bx.grownS); assumption; (first | omega | exact Bx.ne (by assumption) (by omega))) | ((with_reducible apply Bx.below); assumption; omega) | ((with_reducible apply Bx.ex); assumption))) | exact Cells.ex (by assumption) (by assumption)); exact rfl) | ((with_reducible apply r_eql); exact rfl; exact rfl) | ((with_reducible apply r_add); exact rfl; exact rfl; omega) | ((with_reducible apply r_len); exact rfl) | ((with_reducible apply r_lenStr); exact rfl) | ((with_reducible apply r_lenInts); ((conv => lhs; whnf) <;> exact rfl); (focus ((repeat (first | assumption | ((refine IntsK.exH (by assumption) ?_); (focus ((repeat (first | exact Ex.refl _ | assumption | (refine Ex.of_grown ?_ (by assumption) (by intro k hk; cases hk; omega)) | (refine Ex.trans ?_ (by assumption)))); done))) | ((refine Prs.exH (by assumption) ?_); (focus ((repeat (first | exact Ex.refl _ | assumption | (refine Ex.of_grown ?_ (by assumption) (by intro k hk; cases hk; omega)) | (refine Ex.trans ?_ (by assumption)))); done))) | ((with_reducible apply Bx.grownS); assumption; (first | omega | exact Bx.ne (by assumption) (by omega))) | ((with_reducible apply Bx.below); assumption; omega) | ((with_reducible apply OwnP.grownS); assumption; omega) | ((with_reducible apply Own.grownS); assumption; omega) | ((with_reducible apply Bx.ex); assumption) | ((with_reducible apply IntsK.ex); assumption) | ((with_reducible apply Own.ex); assumption) | ((with_reducible apply Prs.ex); assumption) | ((with_reducible apply OwnP.ex); assumption))); done))) | ((with_reducible apply r_lenPrs); ((conv => lhs; whnf) <;> exact rfl); (focus ((repeat (first | assumption | ((refine IntsK.exH (by assumption) ?_); (focus ((repeat (first | exact Ex.refl _ | assumption | (refine Ex.of_grown ?_ (by assumption) (by intro k hk; cases hk; omega)) | (refine Ex.trans ?_ (by assumption)))); done))) | ((refine Prs.exH (by assumption) ?_); (focus ((repeat (first | exact Ex.refl _ | assumption | (refine Ex.of_grown ?_ (by assumption) (by intro k hk; cases hk; omega)) | (refine Ex.trans ?_ (by assumption)))); done))) | ((with_reducible apply Bx.grownS); assumption; (first | omega | exact Bx.ne (by assumption) (by omega))) | ((with_reducible apply Bx.below); assumption; omega) | ((with_reducible apply OwnP.grownS); assumption; omega) | ((with_reducible apply Own.grownS); assumption; omega) | ((with_reducible apply Bx.ex); assumption) | ((with_reducible apply IntsK.ex); assumption) | ((with_reducible apply Own.ex); assumption) | ((with_reducible apply Prs.ex); assumption) | ((with_reducible apply OwnP.ex); assumption))); done))) | ((with_reducible apply r_pick_true); exact rfl; ((conv => lhs; whnf) <;> exact rfl)) | ((with_reducible apply r_pick_false); exact rfl; ((conv => lhs; whnf) <;> exact rfl)) | ((with_reducible apply r_not); exact rfl) | ((with_reducible apply r_notb); exact rfl) | ((with_reducible apply r_rem); exact rfl; exact rfl; omega) | ((with_reducible apply r_eqlb); exact rfl; exact rfl) | ((with_reducible apply r_extract); exact rfl; exact rfl) | ((with_reducible apply r_conv); exact rfl) | ((with_reducible apply r_loadSub); exact rfl; (focus ((repeat (first | assumption | ((with_reducible apply Bx.grownS); assumption; (first | omega | exact Bx.ne (by assumption) (by omega))) | ((with_reducible apply Bx.below); assumption; omega) | ((with_reducible apply Bx.ex); assumption))); done)); ((simp only [Nat.add_zero, Nat.zero_add, Nat.reduceAdd, List.drop_zero, List.drop_succ_cons, List.take_succ_cons, List.take_zero]) <;> exact rfl); exact rfl)))
      | (refine W_call (hM _ (by repeat (first | assumption | exact Ex.refl _ | (refine Ex.trans ?_ (by assumption)) | (refine Ex.of_grown ?_ (by assumption) (by intro k hk; cases hk; omega))))) rfl ?_; rintro cv wc hoc he; have hsz := he.size; have hc1 := hoc.one; have hci := Pv.Own.ints hoc)
      | (refine W_call (hS _ _ (by repeat (first | assumption | exact Ex.refl _ | (refine Ex.trans ?_ (by assumption)) | (refine Ex.of_grown ?_ (by assumption) (by intro k hk; cases hk; omega)))) (IntsK.ex (show Ex wc _ from (by repeat (first | exact Ex.refl _ | assumption | (refine Ex.of_grown ?_ (by assumption) (by intro k hk; cases hk; omega)) | (refine Ex.trans ?_ (by assumption))))) hci)) rfl ?_; rintro sv ws hso he; have hsz := he.size; (obtain ⟨g, cap, rfl, hbg, hgl⟩ := hso.at hi1); have hs1 := hso.one; have hsi := hso.prs; (have hcl := hso.cells hi1); unfold Cells at hcl; (have hcell1 : ws.cell? ⟨g, i0 * 2 + 1, none⟩ = some (.int .i64 ov) := by (rw [hov]; exact hcl 1 _ rfl)); clear hcl; have tkA : True := trivial)
      | (refine W_callv (hA2 _ _ (Prs.ex (show Ex wt _ from (by repeat (first | exact Ex.refl _ | assumption | (refine Ex.of_grown ?_ (by assumption) (by intro k hk; cases hk; omega)) | (refine Ex.trans ?_ (by assumption))))) hti)) rfl (fun wq he => ?_); have hsz := he.size)
      | (refine W_call (hRe _ _ (Prs.ex (show Ex wt _ from (by repeat (first | exact Ex.refl _ | assumption | (refine Ex.of_grown ?_ (by assumption) (by intro k hk; cases hk; omega)) | (refine Ex.trans ?_ (by assumption))))) hti)) rfl ?_; rintro vq wq ⟨ur, rfl, hur⟩ he; have hsz := he.size; have hur1 := hur.one)
      | (refine W_call (hPo _ _ (Prs.ex (show Ex wt _ from (by repeat (first | exact Ex.refl _ | assumption | (refine Ex.of_grown ?_ (by assumption) (by intro k hk; cases hk; omega)) | (refine Ex.trans ?_ (by assumption))))) hti)) rfl ?_; rintro vq wq ⟨up, rfl, hup⟩ he; have hsz := he.size; have hup1 := hup.one)
      | (refine W_callv (works_any _) rfl (fun wq he => ?_); have hsz := he.size)
      | (with_reducible apply W_nil)
      | ((with_reducible apply W_indexInt); ((conv => lhs; whnf) <;> exact rfl); (focus ((repeat (first | assumption | ((refine IntsK.exH (by assumption) ?_); (focus ((repeat (first | exact Ex.refl _ | assumption | (refine Ex.of_grown ?_ (by assumption) (by intro k hk; cases hk; omega)) | (refine Ex.trans ?_ (by assumption)))); done))) | ((refine Prs.exH (by assumption) ?_); (focus ((repeat (first | exact Ex.refl _ | assumption | (refine Ex.of_grown ?_ (by assumption) (by intro k hk; cases hk; omega)) | (refine Ex.trans ?_ (by assumption)))); done))) | ((with_reducible apply Bx.grownS); assumption; (first | omega | exact Bx.ne (by assumption) (by omega))) | ((with_reducible apply Bx.below); assumption; omega) | ((with_reducible apply OwnP.grownS); assumption; omega) | ((with_reducible apply Own.grownS); assumption; omega) | ((with_reducible apply Bx.ex); assumption) | ((with_reducible apply IntsK.ex); assumption) | ((with_reducible apply Own.ex); assumption) | ((with_reducible apply Prs.ex); assumption) | ((with_reducible apply OwnP.ex); assumption))); done)); exact rfl; omega; intro pq hpq)
      | ((with_reducible apply W_indexIntss); ((conv => lhs; whnf) <;> exact rfl); assumption; (focus ((repeat (first | assumption | exact Ex.refl _ | (refine Ex.trans ?_ (by assumption)) | (refine Ex.of_grown ?_ (by assumption) (by intro k hk; cases hk; omega)))); done)); exact rfl; omega; intro pq uq hpq huq)
      | ((with_reducible apply W_indexPr); ((conv => lhs; whnf) <;> exact rfl); (focus ((repeat (first | assumption | ((refine IntsK.exH (by assumption) ?_); (focus ((repeat (first | exact Ex.refl _ | assumption | (refine Ex.of_grown ?_ (by assumption) (by intro k hk; cases hk; omega)) | (refine Ex.trans ?_ (by assumption)))); done))) | ((refine Prs.exH (by assumption) ?_); (focus ((repeat (first | exact Ex.refl _ | assumption | (refine Ex.of_grown ?_ (by assumption) (by intro k hk; cases hk; omega)) | (refine Ex.trans ?_ (by assumption)))); done))) | ((with_reducible apply Bx.grownS); assumption; (first | omega | exact Bx.ne (by assumption) (by omega))) | ((with_reducible apply Bx.below); assumption; omega) | ((with_reducible apply OwnP.grownS); assumption; omega) | ((with_reducible apply Own.grownS); assumption; omega) | ((with_reducible apply Bx.ex); assumption) | ((with_reducible apply IntsK.ex); assumption) | ((with_reducible apply Own.ex); assumption) | ((with_reducible apply Prs.ex); assumption) | ((with_reducible apply OwnP.ex); assumption))); done)); exact rfl; omega; intro pq hpq)
      | ((with_reducible apply W_storeA); exact rfl; (focus ((repeat (first | assumption | ((with_reducible apply Bx.grownS); assumption; (first | omega | exact Bx.ne (by assumption) (by omega))) | ((with_reducible apply Bx.below); assumption; omega) | ((with_reducible apply Bx.ex); assumption))); done)); exact rfl; exact rfl; exact rfl; (repeat' (first | exact trivial | (first | exact rfl | assumption | exact IntsK.one (by assumption) | exact Prs.one (by assumption) | exact OwnP.one (by assumption) | exact Own.one (by assumption)) | constructor)); intro wq hbq hgq; have he : Ex w wq := (by repeat (first | assumption | exact Ex.refl _ | (refine Ex.trans ?_ (by assumption)) | (refine Ex.of_grown ?_ (by assumption) (by intro k hk; cases hk; omega)))); have hsz := he.size; have hgz := hgq.size)
      | ((with_reducible apply W_store); exact rfl; (focus ((repeat (first | assumption | ((with_reducible apply Bx.grownS); assumption; (first | omega | exact Bx.ne (by assumption) (by omega))) | ((with_reducible apply Bx.below); assumption; omega) | ((with_reducible apply Bx.ex); assumption))); done)); exact Nat.le_of_ble_eq_true rfl; ((conv => lhs; whnf) <;> exact rfl); (first | exact rfl | assumption | exact IntsK.one (by assumption) | exact Prs.one (by assumption) | exact OwnP.one (by assumption) | exact Own.one (by assumption)); simp only [lset]; intro wq hbq hgq; have he : Ex w wq := (by repeat (first | assumption | exact Ex.refl _ | (refine Ex.trans ?_ (by assumption)) | (refine Ex.of_grown ?_ (by assumption) (by intro k hk; cases hk; omega)))); have hsz := he.size; have hgz := hgq.size)
      | ((with_reducible apply W_pass); exact rfl; exact rfl; exact rfl; exact rfl; exact rfl)
      | ((with_reducible apply W_take); exact rfl; exact rfl; exact rfl)
      | ((with_reducible apply W_passU); exact rfl; exact rfl; exact rfl; exact rfl)
      | ((with_reducible apply W_split); exact rfl; exact rfl; intro _; rotate_left 1; intro _)
      | ((with_reducible apply W_convBytes); exact rfl; (first | assumption | (unfold maxLen; omega)); intro vq wq hvq he; have hsz := he.size)
      | (with_reducible apply c_seq)
      | ((with_reducible apply c_region); kernel_rfl)
      | (with_reducible apply n_nq)
      | (with_reducible apply c_skip)
      | (with_reducible apply c_ret)
      | (with_reducible apply n_then)
      | (with_reducible apply e_then)
      | (with_reducible apply r_then)
      | ((with_reducible apply p_ret1); exact rfl; exact rfl; ((conv => lhs; whnf) <;> exact rfl); refine ⟨_, rfl, ?_, (by repeat (first | assumption | exact Ex.refl _ | (refine Ex.trans ?_ (by assumption)) | (refine Ex.of_grown ?_ (by assumption) (by intro k hk; cases hk; omega))))⟩)
      | ((with_reducible apply m_ret1); (focus ((repeat (first | assumption | exact Al.nil _ _ | ((with_reducible apply Al.grownS); assumption; (focus ((repeat (first | assumption | ((with_reducible apply Bx.grownS); assumption; (first | omega | exact Bx.ne (by assumption) (by omega))) | ((with_reducible apply Bx.below); assumption; omega) | ((with_reducible apply Bx.ex); assumption))); done))) | (refine Al.ex (by assumption) ?_))); done)); exact rfl; ((conv => lhs; whnf) <;> exact rfl); refine ⟨_, rfl, ?_, (shut_grown _ _ (by repeat (first | assumption | exact Al.nil _ _ | ((with_reducible apply Al.grownS); assumption; (focus ((repeat (first | assumption | ((with_reducible apply Bx.grownS); assumption; (first | omega | exact Bx.ne (by assumption) (by omega))) | ((with_reducible apply Bx.below); assumption; omega) | ((with_reducible apply Bx.ex); assumption))); done))) | (refine Al.ex (by assumption) ?_))) (by repeat (first | assumption | exact Ex.refl _ | (refine Ex.trans ?_ (by assumption)) | (refine Ex.of_grown ?_ (by assumption) (by intro k hk; cases hk; omega)))) (Nat.le_refl _))⟩)
      | ((with_reducible apply p_retct); exact rfl; exact rfl; exact inferInstance; exact inferInstance; exact rfl; (focus ((repeat (first | assumption | ((with_reducible apply Bx.grownS); assumption; (first | omega | exact Bx.ne (by assumption) (by omega))) | ((with_reducible apply Bx.below); assumption; omega) | ((with_reducible apply Bx.ex); assumption))); done)); exact rfl; exact rfl; refine ⟨_, rfl, ?_, (by repeat (first | assumption | exact Ex.refl _ | (refine Ex.trans ?_ (by assumption)) | (refine Ex.of_grown ?_ (by assumption) (by intro k hk; cases hk; omega))))⟩)
      | ((exfalso; omega)))
  all_goals first | rfl | trace_state
end Go.Proofs.Ytngoipmdhliigaa
