/-
  (heavy) What this text proves: the law VaultHidden returns true. Conditions: the values read as lists.
-/
import Derived.Test.YtmicpjholmigeaaVHe
import Derived.Test.YtmicpjholmigeaaVJx
set_option linter.unusedVariables false
set_option linter.unusedSimpArgs false
namespace Go.Pv
open Go.RowKit
theorem all_get {k : Nat} (h : k < 251) : ((List.range 251).map fun (k : Nat) => (k : Int)).getD k 0 = k := by simp [List.getD, h]
theorem poss_few {m : Nat} {sh : List (Int × Int)} (h : sh.length < m) : possL m sh = (List.range 251).map fun (k : Nat) => (k : Int) := by unfold possL; rw [if_pos h]
theorem poss_one {m : Nat} {sh : List (Int × Int)} (h : m ≤ sh.length) (ha : agreeP m sh) : possL m sh = [lgS sh m 0] := by unfold possL; rw [if_neg (by omega), if_pos ha]
theorem cnt_few {m : Nat} {sh : List (Int × Int)} {s : Int} {k : Nat} (h : sh.length + 1 + k = m) (hk : k ≤ 5) : cntN m sh s = powN 251 k := by
  unfold cntN
  rw [if_pos (by omega), show m - sh.length - 1 = k by omega]
  have : k = 0 ∨ k = 1 ∨ k = 2 ∨ k = 3 ∨ k = 4 ∨ k = 5 := by omega
  rcases this with rfl | rfl | rfl | rfl | rfl | rfl <;> decide
end Go.Pv
namespace Go.Proofs.Ytmicpjholmigeaa
open Go.Pv Go.RowKit Go.Sort
set_option maxHeartbeats 8000000
set_option maxRecDepth 20000
theorem lawHidden_any (v vb : Value) (xs bs : List Int) (s0 s1 : Int) (w : World) (h : IntsK .u8 w v xs) (hb : ∀ j, 0 ≤ xs.getD j 0 ∧ xs.getD j 0 ≤ 255) (hv : IntsK .u8 w vb bs) (hbb : ∀ j, 0 ≤ bs.getD j 0 ∧ bs.getD j 0 ≤ 255) (h0 : 0 ≤ s0 ∧ s0 ≤ 255) (h1 : 0 ≤ s1 ∧ s1 ≤ 255) (hbz : bs.length ≤ 1000000000000000000) : Ret Try.prog 10 [v, vb, .agg #[.int .u8 s0, .int .u8 s1]] w fun r _ => r = .bool true := by
  have hv1 := h.one
  have hv2 := hv.one
  have hM := fun w2 (e : Ex w w2) => lmade_any v xs w2 (IntsK.ex e h) hb
  have hln := lockL_len xs
  have hnb := lockL_nb xs
  obtain ⟨c, hc⟩ : ∃ c, c = lockL xs := ⟨_, rfl⟩
  rw [← hc] at hln hnb
  simp only [← hc] at hM
  have hS := fun cv w2 (e : Ex w w2) (hcv : Ints w2 cv c) => lsome_any cv vb c bs c.length w2 hcv hnb (by omega) (IntsK.ex e hv) hbb (by omega) hbz
  have hok := someK_ok (least := c.length) hbb (by omega)
  obtain ⟨ks, hks⟩ : ∃ ks, ks = someK bs c.length := ⟨_, rfl⟩
  rw [← hks] at hok
  simp only [← hks] at hS
  have hsl := shL_len c ks
  have hsk := shL_ok c hok.1
  obtain ⟨sh1, hd1⟩ : ∃ q, q = (shL c ks).take c.length := ⟨_, rfl⟩
  obtain ⟨sh2, hd2⟩ : ∃ q, q = sh1.take (c.length - 1) := ⟨_, rfl⟩
  obtain ⟨sh3, hd3⟩ : ∃ q, q = sh2.take (c.length - 2) := ⟨_, rfl⟩
  have hl1 : sh1.length = c.length := by rw [hd1]; simp; omega
  have hl2 : sh2.length = c.length - 1 := by rw [hd2]; simp; omega
  have hl3 : sh3.length = c.length - 2 := by rw [hd3]; simp; omega
  have hk1 : ShOk sh1 := by rw [hd1]; exact hsk.take _
  have hk2 : ShOk sh2 := by rw [hd2]; exact hk1.take _
  have hk3 : ShOk sh3 := by rw [hd3]; exact hk2.take _
  have hat : ∀ i, i < sh1.length → atP c (sh1.getD i (0, 0)).1 = (sh1.getD i (0, 0)).2 := fun i hi => by
    have e : sh1.getD i (0, 0) = (shL c ks).getD i (0, 0) := by rw [hd1]; simp only [List.getD]; rw [List.getElem?_take_of_lt (by omega)]
    rw [e]; exact shL_at (by omega)
  have hag : agreeP c.length sh1 := agree_of hk1.ok hk1.dist hln.1 rfl hnb hat
  have hz : lgS sh1 c.length 0 = c.getD 0 0 := by rw [lgS_zero hk1.dist hln.1 (by omega), rest_is hk1.dist hln.1 (by omega) rfl hnb fun i hi => hat i (by omega)]
  have hP1 : ∀ sv w2, Prs w2 sv sh2 → Ret Try.prog 32 [.int .i64 (c.length : Int), sv] w2 fun r w' => ∃ u, r = .tuple #[u, .int .i64 0] ∧ Ints w' u ((List.range 251).map fun (k : Nat) => (k : Int)) := fun sv w2 e => by
    have := Possible_any (c.length : Int) sv sh2 w2 e
    rw [hk2.chk (by omega), if_pos rfl, Int.toNat_natCast, poss_few (by omega)] at this
    exact this.monoU fun r _ _ ⟨u, e, h⟩ => ⟨u, e, Pv.Own.ints h⟩
  have hP2 : ∀ sv w2, Prs w2 sv sh1 → Ret Try.prog 32 [.int .i64 (c.length : Int), sv] w2 fun r w' => ∃ u, r = .tuple #[u, .int .i64 0] ∧ Ints w' u [c.getD 0 0] := fun sv w2 e => by
    have := Possible_any (c.length : Int) sv sh1 w2 e
    rw [hk1.chk (by omega), if_pos rfl, Int.toNat_natCast, poss_one (by omega) hag, hz] at this
    exact this.monoU fun r _ _ ⟨u, e, h⟩ => ⟨u, e, Pv.Own.ints h⟩
  have hC1 : ∀ sv (s : Int) w2, Prs w2 sv sh2 → 0 ≤ s ∧ s ≤ 255 → Ret Try.prog 34 [.int .i64 (c.length : Int), sv, .int .i64 (s % 251)] w2 fun r w' => r = .tuple #[.int .i64 1, .int .i64 0] := fun sv s w2 e hs => by
    have := Count_any (c.length : Int) sv sh2 (s % 251) w2 e
    have e0 : cntErr (c.length : Int) sh2 (s % 251) = 0 := by unfold cntErr; rw [hk2.chk (by omega), if_neg (by decide), if_pos (by omega)]
    rwa [e0, if_pos rfl, Int.toNat_natCast, cnt_few (k := 0) (by omega) (by omega)] at this
  have hC3 : ∀ sv (s : Int) w2, Prs w2 sv sh3 → 0 ≤ s ∧ s ≤ 255 → 2 ≤ c.length → Ret Try.prog 34 [.int .i64 (c.length : Int), sv, .int .i64 (s % 251)] w2 fun r w' => r = .tuple #[.int .i64 251, .int .i64 0] := fun sv s w2 e hs h2 => by
    have := Count_any (c.length : Int) sv sh3 (s % 251) w2 e
    have e0 : cntErr (c.length : Int) sh3 (s % 251) = 0 := by unfold cntErr; rw [hk3.chk (by omega), if_neg (by decide), if_pos (by omega)]
    rwa [e0, if_pos rfl, Int.toNat_natCast, cnt_few (k := 1) (by omega) (by omega)] at this
  have hag0 := fun (k : Nat) (hk : k < 251) => all_get hk
  have hrl : ((List.range 251).map fun (k : Nat) => (k : Int)).length = 251 := by simp
  obtain ⟨R, hR⟩ : ∃ R, R = (List.range 251).map fun (k : Nat) => (k : Int) := ⟨_, rfl⟩
  rw [← hR] at hrl
  simp only [← hR] at hP1 hag0
  have tkO : True := trivial
  have tkL : True := trivial
  clear hc hks hag hz hR hsk hk1 hk2 hk3 hat
  refine ret_of_c Try.func10 rfl Try.ntmps10 (Nat.le_of_ble_eq_true rfl) (by dsimp only [ini, Nat.reduceAdd] <;> exact rfl) ?_
  repeat' (first
      | (clear tkO; (with_reducible apply W_box); exact rfl; exact rfl; intro b5 wb hb5 he hnq; have hlt5 := Bx.lt hb5; have hsz := he.size)
      | ((with_reducible apply W_split); exact rfl; exact rfl; intro _; rotate_left 1; intro hsx; (all_goals (try (exfalso; (focus (first | exact hsx rfl | omega; done))))))
      | ((with_reducible apply c_cond_dec); exact rfl; intro hsy; rotate_left 1; intro hsx; (all_goals (try (exfalso; (focus (first | exact hsx rfl | exact hsy rfl | omega; done))))))
      | ((with_reducible apply W_op); exact rfl; exact rfl; exact r_lenInts rfl (IntsK.ex (by repeat (first | exact Ex.refl _ | assumption | (refine Ex.of_grown ?_ (by assumption) (by intro k hk; cases hk; omega)) | (refine Ex.trans ?_ (by assumption)))) hci))
      | ((with_reducible apply W_op); exact rfl; exact rfl; exact r_takeP (i := c.length) (xs := shL c ks) rfl (Prs.ex (show Ex ws _ from (by repeat (first | exact Ex.refl _ | assumption | (refine Ex.of_grown ?_ (by assumption) (by intro k hk; cases hk; omega)) | (refine Ex.trans ?_ (by assumption))))) hsi) rfl (by omega))
      | ((with_reducible apply W_op); exact rfl; exact rfl; exact r_takeP (i := c.length - 1) (xs := sh1) rfl (Prs.ex (show Ex ws _ from (by repeat (first | exact Ex.refl _ | assumption | (refine Ex.of_grown ?_ (by assumption) (by intro k hk; cases hk; omega)) | (refine Ex.trans ?_ (by assumption))))) ht1) (Eq.trans (b := Value.int .i64 _) rfl (congrArg _ (by omega))) (by omega))
      | ((with_reducible apply W_op); exact rfl; exact rfl; (first | exact r_indexArr (n := 2) (i := 0) rfl rfl (by decide) | exact r_indexArr (n := 2) (i := 1) rfl rfl (by decide)))
      | ((with_reducible apply W_op); exact rfl; exact rfl; exact r_load rfl rfl ((Bx.cell (Bx.ex (show Ex ws _ from (by repeat (first | exact Ex.refl _ | assumption | (refine Ex.of_grown ?_ (by assumption) (by intro k hk; cases hk; omega)) | (refine Ex.trans ?_ (by assumption))))) hb5s) _).trans rfl))
      | ((with_reducible apply W_op); exact rfl; exact rfl; exact r_lenInts rfl (IntsK.ex (show Ex _ _ from (by repeat (first | exact Ex.refl _ | assumption | (refine Ex.of_grown ?_ (by assumption) (by intro k hk; cases hk; omega)) | (refine Ex.trans ?_ (by assumption))))) hup))
      | (refine W_indexInt (i := 0) (xs := c) rfl (IntsK.ex (show Ex ws _ from (by repeat (first | exact Ex.refl _ | assumption | (refine Ex.of_grown ?_ (by assumption) (by intro k hk; cases hk; omega)) | (refine Ex.trans ?_ (by assumption))))) hcs) rfl (by omega) ?_; intro pq hpq)
      | (refine W_indexInt (i := k) (xs := R) rfl (IntsK.ex (show Ex _ _ from (by repeat (first | exact Ex.refl _ | assumption | (refine Ex.of_grown ?_ (by assumption) (by intro k hk; cases hk; omega)) | (refine Ex.trans ?_ (by assumption))))) hup) rfl (by omega) ?_; intro pq hpq; rw [hag0 k (by omega)] at hpq)
      | (refine c_mix (id := 19) [] [0, 1, 2, 3, 4, 5, 6, 7, 8, 9, 10, 11, 12, 13] [14, 15] [false, false, false, false, false, false, false, false, false, false, false, false, false, false, false, false] [true, true, true, true, true, true, true, true, true, true, true, true, true, true, false, false] [none, none, none, none, none, none, none, none, none, none, none, none, none, none, some false, some true] (by kernel_rfl) (by kernel_rfl) (by kernel_rfl) (by kernel_rfl) (by kernel_rfl) (by kernel_rfl) (by dsimp only [sel] <;> exact rfl) (by dsimp only [sel] <;> exact rfl) (by dsimp only [selT] <;> exact rfl) ?_)
      | ((with_reducible apply WM_op); exact rfl; exact rfl; (intro wq he; exact r_takeP (i := c.length - 2) (xs := sh2) rfl (Prs.ex (show Ex ws _ from (by repeat (first | exact Ex.refl _ | assumption | (refine Ex.of_grown ?_ (by assumption) (by intro k hk; cases hk; omega)) | (refine Ex.trans ?_ (by assumption))))) ht2) (Eq.trans (b := Value.int .i64 _) rfl (congrArg _ (by omega))) (by omega)))
      | ((with_reducible apply WM_op); exact rfl; exact rfl; (intro wq he; exact r_lenInts rfl (IntsK.ex (show Ex ws _ from (by repeat (first | exact Ex.refl _ | assumption | (refine Ex.of_grown ?_ (by assumption) (by intro k hk; cases hk; omega)) | (refine Ex.trans ?_ (by assumption))))) hcs)))
      | ((with_reducible apply WM_op); exact rfl; exact rfl; (intro wq he; exact r_indexArr (n := 2) (i := 0) rfl rfl (by decide)))
      | ((with_reducible apply WM_op); exact rfl; exact rfl; (intro wq he; exact r_load rfl rfl ((Bx.cell (Bx.ex (show Ex ws _ from (by repeat (first | exact Ex.refl _ | assumption | (refine Ex.of_grown ?_ (by assumption) (by intro k hk; cases hk; omega)) | (refine Ex.trans ?_ (by assumption))))) hb5s) _).trans rfl)))
      | ((with_reducible apply WM_op); exact rfl; exact rfl; (intro wq he; exact r_conv8 rfl (by omega)))
      | ((with_reducible apply WM_op); exact rfl; exact rfl; (intro wq he; exact r_remE rfl rfl (by omega) (by omega)))
      | ((with_reducible apply W_op); exact rfl; exact rfl; exact r_lenPrs rfl (Prs.ex (show Ex ws _ from (by repeat (first | exact Ex.refl _ | assumption | (refine Ex.of_grown ?_ (by assumption) (by intro k hk; cases hk; omega)) | (refine Ex.trans ?_ (by assumption))))) ht2))
      | (clear tkL; (obtain ⟨wp, hwp⟩ : ∃ x, x = up := ⟨_, rfl⟩); refine c_loopG (fun (k : Nat) ps wr => ∃ iv : Int, ps = [(5, .pointer (some ⟨b5, 0, none⟩)), (7, cv), (9, takeV (takeV sv c.length) (c.length - 1)), (109, up), (110, .int .i64 R.length), (111, .int .i64 iv)] ∧ iv = k ∧ k ≤ 251 ∧ Ex ws wr ∧ Ints wr up R) (fun k => 251 - k) 0 _ ⟨_, rfl, rfl, Nat.zero_le _, (show Ex ws _ from (by repeat (first | exact Ex.refl _ | assumption | (refine Ex.of_grown ?_ (by assumption) (by intro k hk; cases hk; omega)) | (refine Ex.trans ?_ (by assumption))))), IntsK.ex (by repeat (first | exact Ex.refl _ | assumption | (refine Ex.of_grown ?_ (by assumption) (by intro k hk; cases hk; omega)) | (refine Ex.trans ?_ (by assumption)))) hup⟩ ⟨rfl, rfl, rfl, rfl, rfl, rfl, trivial⟩ (by ((conv => lhs; whnf) <;> exact rfl)) (by ((conv => lhs; whnf) <;> exact rfl)) ?_; rintro J hJ k u ps wr ⟨iv, rfl, rfl, hk, he, hup⟩; have hsz := he.size)
      | ((first | ((with_reducible apply W_op); exact rfl; exact rfl) | ((with_reducible apply WQ_op); exact rfl; exact rfl; intro wq he) | ((with_reducible apply WM_op); exact rfl; exact rfl; intro wq he) | ((with_reducible apply WB_op); exact rfl; exact rfl; intro wq)); (first | ((with_reducible apply r_conv8); exact rfl; omega) | ((with_reducible apply r_conv16); exact rfl; omega) | ((with_reducible apply r_remE); exact rfl; exact rfl; omega; omega) | ((with_reducible apply r_indexArr); exact rfl; exact rfl; omega) | ((with_reducible apply r_move); ((conv => lhs; whnf) <;> exact rfl)) | ((with_reducible apply r_assign); ((conv => lhs; whnf) <;> exact rfl)) | ((with_reducible apply r_load); exact rfl; exact rfl; (first | assumption | exact (Bx.cell (by repeat (first | assumption | ((with_reducible apply Bx.grownS); assumption; (first | omega | exact Bx.ne (by assumption) (by omega))) | ((with_reducible apply Bx.below); assumption; omega) | ((with_reducible apply Bx.ex); assumption))) _).trans rfl | exact Ex.cell (by assumption) (by assumption))) | ((with_reducible apply r_loadF); exact rfl; (first | assumption | exact (Bx.cell (by repeat (first | assumption | ((with_reducible apply Bx.grownS); assumption; (first | omega | exact Bx.ne (by assumption) (by omega))) | ((with_reducible apply Bx.below); assumption; omega) | ((with_reducible apply Bx.ex); assumption))) _).trans rfl | exact Ex.cell (by assumption) (by assumption))) | ((with_reducible apply r_loadA); exact rfl; (first | assumption | exact Bx.cells (by repeat (first | assumption | ((with_reducible apply Bx.grownS); assumption; (first | omega | exact Bx.ne (by assumption) (by omega))) | ((with_reducible apply Bx.below); assumption; omega) | ((with_reducible apply Bx.ex); assumption))) | exact Cells.ex (by assumption) (by assumption)); exact rfl) | ((with_reducible apply r_lss); exact rfl; exact rfl) | ((with_reducible apply r_eql); exact rfl; exact rfl) | ((with_reducible apply r_neq); exact rfl; exact rfl) | ((with_reducible apply r_add); exact rfl; exact rfl; omega) | ((with_reducible apply r_sub); exact rfl; exact rfl; omega) | ((with_reducible apply r_len); exact rfl) | ((with_reducible apply r_lenStr); exact rfl) | ((with_reducible apply r_lenInts); ((conv => lhs; whnf) <;> exact rfl); (focus ((repeat (first | assumption | ((refine IntsK.exH (by assumption) ?_); (focus ((repeat (first | exact Ex.refl _ | assumption | (refine Ex.of_grown ?_ (by assumption) (by intro k hk; cases hk; omega)) | (refine Ex.trans ?_ (by assumption)))); done))) | ((refine Prs.exH (by assumption) ?_); (focus ((repeat (first | exact Ex.refl _ | assumption | (refine Ex.of_grown ?_ (by assumption) (by intro k hk; cases hk; omega)) | (refine Ex.trans ?_ (by assumption)))); done))) | ((with_reducible apply Bx.grownS); assumption; (first | omega | exact Bx.ne (by assumption) (by omega))) | ((with_reducible apply Bx.below); assumption; omega) | ((with_reducible apply OwnP.grownS); assumption; omega) | ((with_reducible apply Own.grownS); assumption; omega) | ((with_reducible apply Bx.ex); assumption) | ((with_reducible apply IntsK.ex); assumption) | ((with_reducible apply Own.ex); assumption) | ((with_reducible apply Prs.ex); assumption) | ((with_reducible apply OwnP.ex); assumption))); done))) | ((with_reducible apply r_lenPrs); ((conv => lhs; whnf) <;> exact rfl); (focus ((repeat (first | assumption | ((refine IntsK.exH (by assumption) ?_); (focus ((repeat (first | exact Ex.refl _ | assumption | (refine Ex.of_grown ?_ (by assumption) (by intro k hk; cases hk; omega)) | (refine Ex.trans ?_ (by assumption)))); done))) | ((refine Prs.exH (by assumption) ?_); (focus ((repeat (first | exact Ex.refl _ | assumption | (refine Ex.of_grown ?_ (by assumption) (by intro k hk; cases hk; omega)) | (refine Ex.trans ?_ (by assumption)))); done))) | ((with_reducible apply Bx.grownS); assumption; (first | omega | exact Bx.ne (by assumption) (by omega))) | ((with_reducible apply Bx.below); assumption; omega) | ((with_reducible apply OwnP.grownS); assumption; omega) | ((with_reducible apply Own.grownS); assumption; omega) | ((with_reducible apply Bx.ex); assumption) | ((with_reducible apply IntsK.ex); assumption) | ((with_reducible apply Own.ex); assumption) | ((with_reducible apply Prs.ex); assumption) | ((with_reducible apply OwnP.ex); assumption))); done))) | ((with_reducible apply r_pick_true); exact rfl; ((conv => lhs; whnf) <;> exact rfl)) | ((with_reducible apply r_pick_false); exact rfl; ((conv => lhs; whnf) <;> exact rfl)) | ((with_reducible apply r_not); exact rfl) | ((with_reducible apply r_notb); exact rfl) | ((with_reducible apply r_rem); exact rfl; exact rfl; omega) | ((with_reducible apply r_eqlb); exact rfl; exact rfl) | ((with_reducible apply r_neqb); exact rfl; exact rfl) | ((with_reducible apply r_extract); exact rfl; exact rfl) | ((with_reducible apply r_conv); exact rfl) | ((with_reducible apply r_loadSub); exact rfl; (focus ((repeat (first | assumption | ((with_reducible apply Bx.grownS); assumption; (first | omega | exact Bx.ne (by assumption) (by omega))) | ((with_reducible apply Bx.below); assumption; omega) | ((with_reducible apply Bx.ex); assumption))); done)); ((simp only [Nat.add_zero, Nat.zero_add, Nat.reduceAdd, List.drop_zero, List.drop_succ_cons, List.take_succ_cons, List.take_zero]) <;> exact rfl); exact rfl)))
      | (refine W_call (hM _ (by repeat (first | assumption | exact Ex.refl _ | (refine Ex.trans ?_ (by assumption)) | (refine Ex.of_grown ?_ (by assumption) (by intro k hk; cases hk; omega))))) rfl ?_; rintro cv wq hoc he; have hsz := he.size; have hc1 := hoc.one; have hci := Pv.Own.ints hoc)
      | (refine W_call (hS _ _ (by repeat (first | assumption | exact Ex.refl _ | (refine Ex.trans ?_ (by assumption)) | (refine Ex.of_grown ?_ (by assumption) (by intro k hk; cases hk; omega)))) (IntsK.ex (by repeat (first | exact Ex.refl _ | assumption | (refine Ex.of_grown ?_ (by assumption) (by intro k hk; cases hk; omega)) | (refine Ex.trans ?_ (by assumption)))) hci)) rfl ?_; rintro sv ws ⟨hso, -, -⟩ he; have hsz := he.size; have hs1 := hso.one; have hsi := hso.prs; (have ht1 : Prs ws (takeV sv c.length) sh1 := by (rw [hd1]; exact Prs.take hsi (by omega))); (have ht2 : Prs ws (takeV (takeV sv c.length) (c.length - 1)) sh2 := by (rw [hd2]; exact Prs.take ht1 (by omega))); (have ht3 : Prs ws (takeV (takeV (takeV sv c.length) (c.length - 1)) (c.length - 2)) sh3 := by (rw [hd3]; exact Prs.take ht2 (by omega))); have ho1 := ht1.one; have ho2 := ht2.one; have ho3 := ht3.one; (have hb5s := Bx.ex (show Ex wb ws from (by repeat (first | exact Ex.refl _ | assumption | (refine Ex.of_grown ?_ (by assumption) (by intro k hk; cases hk; omega)) | (refine Ex.trans ?_ (by assumption))))) hb5); (have hcs := IntsK.ex (show Ex _ ws from he) hci))
      | (refine W_call (hP1 _ _ (Prs.ex (show Ex ws _ from (by repeat (first | exact Ex.refl _ | assumption | (refine Ex.of_grown ?_ (by assumption) (by intro k hk; cases hk; omega)) | (refine Ex.trans ?_ (by assumption))))) ht2)) rfl ?_; rintro vq wq ⟨up, rfl, hup⟩ he; have hsz := he.size; have hp1 := hup.one)
      | (refine W_call (hP2 _ _ (Prs.ex (show Ex ws _ from (by repeat (first | exact Ex.refl _ | assumption | (refine Ex.of_grown ?_ (by assumption) (by intro k hk; cases hk; omega)) | (refine Ex.trans ?_ (by assumption))))) ht1)) rfl ?_; rintro vq wq ⟨uq, rfl, huq⟩ he; have hsz := he.size; have hq1 := huq.one)
      | (refine W_callv (hC1 _ s0 _ (Prs.ex (show Ex ws _ from (by repeat (first | exact Ex.refl _ | assumption | (refine Ex.of_grown ?_ (by assumption) (by intro k hk; cases hk; omega)) | (refine Ex.trans ?_ (by assumption))))) ht2) h0) rfl (fun wq he => ?_); have hsz := he.size)
      | (refine W_callv (hC1 _ s1 _ (Prs.ex (show Ex ws _ from (by repeat (first | exact Ex.refl _ | assumption | (refine Ex.of_grown ?_ (by assumption) (by intro k hk; cases hk; omega)) | (refine Ex.trans ?_ (by assumption))))) ht2) h1) rfl (fun wq he => ?_); have hsz := he.size)
      | (refine W_callv (nums_same _ _ [c.getD 0 0] _ (IntsK.ex (by repeat (first | exact Ex.refl _ | assumption | (refine Ex.of_grown ?_ (by assumption) (by intro k hk; cases hk; omega)) | (refine Ex.trans ?_ (by assumption)))) huq) (IntsK.built (xs := [c.getD 0 0]) hbq rfl (by simp))) rfl (fun wq he => ?_); have hsz := he.size)
      | (refine WM_callv (fun wq he => hC3 _ s0 _ (Prs.ex (show Ex ws _ from (by repeat (first | exact Ex.refl _ | assumption | (refine Ex.of_grown ?_ (by assumption) (by intro k hk; cases hk; omega)) | (refine Ex.trans ?_ (by assumption))))) ht3) h0 (by omega)) rfl ?_)
      | (refine W_callv (works_any _) rfl (fun wq he => ?_); have hsz := he.size)
      | ((with_reducible (show Exit.then _ _ _ _ _)); refine n_roundG (k + 1) (hJ _ _ _ _ ⟨_, rfl, by omega, by omega, (show Ex ws _ from (by repeat (first | exact Ex.refl _ | assumption | (refine Ex.of_grown ?_ (by assumption) (by intro k hk; cases hk; omega)) | (refine Ex.trans ?_ (by assumption))))), IntsK.ex (by repeat (first | exact Ex.refl _ | assumption | (refine Ex.of_grown ?_ (by assumption) (by intro k hk; cases hk; omega)) | (refine Ex.trans ?_ (by assumption)))) hup⟩ ⟨rfl, rfl, rfl, rfl, rfl, rfl, trivial⟩ rfl) (by omega))
      | (with_reducible apply W_nil)
      | ((with_reducible apply WQ_nil); exact rfl; intro wq he; have hsz := he.size)
      | (with_reducible apply WM_nil; intro wq he; have hsz := he.size)
      | (with_reducible apply WB_nil)
      | (with_reducible apply WT_nil)
      | (with_reducible apply WT_cons)
      | (with_reducible apply t_sink)
      | ((with_reducible apply t_keep); (focus ((repeat (first | assumption | exact Ex.refl _ | (refine Ex.trans ?_ (by assumption)) | (refine Ex.of_grown ?_ (by assumption) (by intro k hk; cases hk; omega)))); done)); intro wq he; have hsz := he.size)
      | ((with_reducible apply W_box); exact rfl; exact rfl; intro bq wq hbq he hnq; have hltq := Bx.lt hbq; have hsz := he.size)
      | ((with_reducible apply W_indexInt); ((conv => lhs; whnf) <;> exact rfl); (focus ((repeat (first | assumption | ((refine IntsK.exH (by assumption) ?_); (focus ((repeat (first | exact Ex.refl _ | assumption | (refine Ex.of_grown ?_ (by assumption) (by intro k hk; cases hk; omega)) | (refine Ex.trans ?_ (by assumption)))); done))) | ((refine Prs.exH (by assumption) ?_); (focus ((repeat (first | exact Ex.refl _ | assumption | (refine Ex.of_grown ?_ (by assumption) (by intro k hk; cases hk; omega)) | (refine Ex.trans ?_ (by assumption)))); done))) | ((with_reducible apply Bx.grownS); assumption; (first | omega | exact Bx.ne (by assumption) (by omega))) | ((with_reducible apply Bx.below); assumption; omega) | ((with_reducible apply OwnP.grownS); assumption; omega) | ((with_reducible apply Own.grownS); assumption; omega) | ((with_reducible apply Bx.ex); assumption) | ((with_reducible apply IntsK.ex); assumption) | ((with_reducible apply Own.ex); assumption) | ((with_reducible apply Prs.ex); assumption) | ((with_reducible apply OwnP.ex); assumption))); done)); exact rfl; omega; intro pq hpq)
      | ((with_reducible apply W_indexIntss); ((conv => lhs; whnf) <;> exact rfl); assumption; (focus ((repeat (first | assumption | exact Ex.refl _ | (refine Ex.trans ?_ (by assumption)) | (refine Ex.of_grown ?_ (by assumption) (by intro k hk; cases hk; omega)))); done)); exact rfl; omega; intro pq uq hpq huq)
      | ((with_reducible apply WQ_indexInt); ((conv => lhs; whnf) <;> exact rfl); (focus ((repeat (first | assumption | ((refine IntsK.exH (by assumption) ?_); (focus ((repeat (first | exact Ex.refl _ | assumption | (refine Ex.of_grown ?_ (by assumption) (by intro k hk; cases hk; omega)) | (refine Ex.trans ?_ (by assumption)))); done))) | ((refine Prs.exH (by assumption) ?_); (focus ((repeat (first | exact Ex.refl _ | assumption | (refine Ex.of_grown ?_ (by assumption) (by intro k hk; cases hk; omega)) | (refine Ex.trans ?_ (by assumption)))); done))) | ((with_reducible apply Bx.grownS); assumption; (first | omega | exact Bx.ne (by assumption) (by omega))) | ((with_reducible apply Bx.below); assumption; omega) | ((with_reducible apply OwnP.grownS); assumption; omega) | ((with_reducible apply Own.grownS); assumption; omega) | ((with_reducible apply Bx.ex); assumption) | ((with_reducible apply IntsK.ex); assumption) | ((with_reducible apply Own.ex); assumption) | ((with_reducible apply Prs.ex); assumption) | ((with_reducible apply OwnP.ex); assumption))); done)); exact rfl; omega; intro pq hpq)
      | ((with_reducible apply WQ_indexIntss); ((conv => lhs; whnf) <;> exact rfl); assumption; (focus ((repeat (first | assumption | exact Ex.refl _ | (refine Ex.trans ?_ (by assumption)) | (refine Ex.of_grown ?_ (by assumption) (by intro k hk; cases hk; omega)))); done)); exact rfl; omega; intro pq uq hpq huq)
      | ((with_reducible apply WM_indexInt); ((conv => lhs; whnf) <;> exact rfl); (focus ((repeat (first | assumption | ((refine IntsK.exH (by assumption) ?_); (focus ((repeat (first | exact Ex.refl _ | assumption | (refine Ex.of_grown ?_ (by assumption) (by intro k hk; cases hk; omega)) | (refine Ex.trans ?_ (by assumption)))); done))) | ((refine Prs.exH (by assumption) ?_); (focus ((repeat (first | exact Ex.refl _ | assumption | (refine Ex.of_grown ?_ (by assumption) (by intro k hk; cases hk; omega)) | (refine Ex.trans ?_ (by assumption)))); done))) | ((with_reducible apply Bx.grownS); assumption; (first | omega | exact Bx.ne (by assumption) (by omega))) | ((with_reducible apply Bx.below); assumption; omega) | ((with_reducible apply OwnP.grownS); assumption; omega) | ((with_reducible apply Own.grownS); assumption; omega) | ((with_reducible apply Bx.ex); assumption) | ((with_reducible apply IntsK.ex); assumption) | ((with_reducible apply Own.ex); assumption) | ((with_reducible apply Prs.ex); assumption) | ((with_reducible apply OwnP.ex); assumption))); done)); exact rfl; omega; intro pq hpq)
      | ((with_reducible apply WM_indexIntss); ((conv => lhs; whnf) <;> exact rfl); assumption; (focus ((repeat (first | assumption | exact Ex.refl _ | (refine Ex.trans ?_ (by assumption)) | (refine Ex.of_grown ?_ (by assumption) (by intro k hk; cases hk; omega)))); done)); exact rfl; omega; intro pq uq hpq huq)
      | ((with_reducible apply W_indexPr); ((conv => lhs; whnf) <;> exact rfl); (focus ((repeat (first | assumption | ((refine IntsK.exH (by assumption) ?_); (focus ((repeat (first | exact Ex.refl _ | assumption | (refine Ex.of_grown ?_ (by assumption) (by intro k hk; cases hk; omega)) | (refine Ex.trans ?_ (by assumption)))); done))) | ((refine Prs.exH (by assumption) ?_); (focus ((repeat (first | exact Ex.refl _ | assumption | (refine Ex.of_grown ?_ (by assumption) (by intro k hk; cases hk; omega)) | (refine Ex.trans ?_ (by assumption)))); done))) | ((with_reducible apply Bx.grownS); assumption; (first | omega | exact Bx.ne (by assumption) (by omega))) | ((with_reducible apply Bx.below); assumption; omega) | ((with_reducible apply OwnP.grownS); assumption; omega) | ((with_reducible apply Own.grownS); assumption; omega) | ((with_reducible apply Bx.ex); assumption) | ((with_reducible apply IntsK.ex); assumption) | ((with_reducible apply Own.ex); assumption) | ((with_reducible apply Prs.ex); assumption) | ((with_reducible apply OwnP.ex); assumption))); done)); exact rfl; omega; intro pq hpq)
      | ((with_reducible apply WQ_indexPr); ((conv => lhs; whnf) <;> exact rfl); (focus ((repeat (first | assumption | ((refine IntsK.exH (by assumption) ?_); (focus ((repeat (first | exact Ex.refl _ | assumption | (refine Ex.of_grown ?_ (by assumption) (by intro k hk; cases hk; omega)) | (refine Ex.trans ?_ (by assumption)))); done))) | ((refine Prs.exH (by assumption) ?_); (focus ((repeat (first | exact Ex.refl _ | assumption | (refine Ex.of_grown ?_ (by assumption) (by intro k hk; cases hk; omega)) | (refine Ex.trans ?_ (by assumption)))); done))) | ((with_reducible apply Bx.grownS); assumption; (first | omega | exact Bx.ne (by assumption) (by omega))) | ((with_reducible apply Bx.below); assumption; omega) | ((with_reducible apply OwnP.grownS); assumption; omega) | ((with_reducible apply Own.grownS); assumption; omega) | ((with_reducible apply Bx.ex); assumption) | ((with_reducible apply IntsK.ex); assumption) | ((with_reducible apply Own.ex); assumption) | ((with_reducible apply Prs.ex); assumption) | ((with_reducible apply OwnP.ex); assumption))); done)); exact rfl; omega; intro pq hpq)
      | ((with_reducible apply W_bsP); exact rfl; exact rfl; intro bq wq hbq he hnq; have hltq := Bx.lt hbq; have hsz := he.size)
      | ((with_reducible apply W_pass); exact rfl; exact rfl; exact rfl; exact rfl; exact rfl)
      | ((with_reducible apply W_take); exact rfl; exact rfl; exact rfl)
      | ((with_reducible apply W_passU); exact rfl; exact rfl; exact rfl; exact rfl)
      | ((with_reducible apply W_split); exact rfl; exact rfl; intro _; rotate_left 1; intro _)
      | ((with_reducible apply WQ_pass); exact rfl; exact rfl; exact rfl; exact rfl; exact rfl)
      | ((with_reducible apply WQ_take); exact rfl; exact rfl; exact rfl)
      | ((with_reducible apply WQ_passU); exact rfl; exact rfl; exact rfl; exact rfl)
      | ((with_reducible apply WQ_split); exact rfl; exact rfl; intro _; rotate_left 1; intro _)
      | ((with_reducible apply WM_pass); exact rfl; exact rfl; exact rfl; exact rfl; exact rfl)
      | ((with_reducible apply WM_take); exact rfl; exact rfl; exact rfl)
      | ((with_reducible apply WM_passU); exact rfl; exact rfl; exact rfl; exact rfl)
      | ((with_reducible apply WM_split); exact rfl; exact rfl; intro _; rotate_left 1; intro _)
      | ((with_reducible apply c_quiet); kernel_rfl)
      | ((with_reducible apply W_convBytes); exact rfl; (first | assumption | (unfold maxLen; omega)); intro vq wq hvq he; have hsz := he.size)
      | ((with_reducible apply W_bs1); ((conv => lhs; whnf) <;> exact rfl); (first | exact rfl | assumption | exact IntsK.one (by assumption) | exact Prs.one (by assumption) | exact OwnP.one (by assumption) | exact Own.one (by assumption)); decide; decide; exact rfl; exact rfl; ((simp only [lay, lset, List.replicate_succ, List.replicate_zero]) <;> exact rfl); intro bq wq hbq he hnq; have hltq := Bx.lt hbq; have hsz := he.size)
      | (with_reducible apply c_seq)
      | ((with_reducible apply c_region); kernel_rfl)
      | (with_reducible apply n_nq)
      | (with_reducible apply c_block)
      | (with_reducible apply c_skip)
      | (with_reducible apply c_ret)
      | (with_reducible apply c_exit)
      | ((with_reducible apply c_cond_true); exact rfl)
      | ((with_reducible apply c_cond_false); exact rfl)
      | ((with_reducible apply c_cond_dec); exact rfl; intro _; rotate_left 1; intro _)
      | ((with_reducible apply c_cond_bool); exact rfl; intro _; rotate_left 1; intro _)
      | (with_reducible apply n_then)
      | (with_reducible apply n_block)
      | (with_reducible apply e_then)
      | (with_reducible apply e_block)
      | (with_reducible apply r_then)
      | (with_reducible apply r_block)
      | ((with_reducible apply e_block'); decide)
      | ((with_reducible apply p_ret1); exact rfl; exact rfl; ((conv => lhs; whnf) <;> exact rfl); refine ⟨_, rfl, ?_, (by repeat (first | assumption | exact Ex.refl _ | (refine Ex.trans ?_ (by assumption)) | (refine Ex.of_grown ?_ (by assumption) (by intro k hk; cases hk; omega))))⟩)
      | ((with_reducible apply m_ret1); (focus ((repeat (first | assumption | exact Al.nil _ _ | ((with_reducible apply Al.grownS); assumption; (focus ((repeat (first | assumption | ((with_reducible apply Bx.grownS); assumption; (first | omega | exact Bx.ne (by assumption) (by omega))) | ((with_reducible apply Bx.below); assumption; omega) | ((with_reducible apply Bx.ex); assumption))); done))) | (refine Al.ex (by assumption) ?_))); done)); exact rfl; ((conv => lhs; whnf) <;> exact rfl); refine ⟨_, rfl, ?_, (shut_grown _ _ (by repeat (first | assumption | exact Al.nil _ _ | ((with_reducible apply Al.grownS); assumption; (focus ((repeat (first | assumption | ((with_reducible apply Bx.grownS); assumption; (first | omega | exact Bx.ne (by assumption) (by omega))) | ((with_reducible apply Bx.below); assumption; omega) | ((with_reducible apply Bx.ex); assumption))); done))) | (refine Al.ex (by assumption) ?_))) (by repeat (first | assumption | exact Ex.refl _ | (refine Ex.trans ?_ (by assumption)) | (refine Ex.of_grown ?_ (by assumption) (by intro k hk; cases hk; omega)))) (Nat.le_refl _))⟩)
      | ((with_reducible apply p_retct); exact rfl; exact rfl; exact inferInstance; exact inferInstance; exact rfl; (focus ((repeat (first | assumption | ((with_reducible apply Bx.grownS); assumption; (first | omega | exact Bx.ne (by assumption) (by omega))) | ((with_reducible apply Bx.below); assumption; omega) | ((with_reducible apply Bx.ex); assumption))); done)); exact rfl; exact rfl; refine ⟨_, rfl, ?_, (by repeat (first | assumption | exact Ex.refl _ | (refine Ex.trans ?_ (by assumption)) | (refine Ex.of_grown ?_ (by assumption) (by intro k hk; cases hk; omega))))⟩)
      | ((exfalso; omega)))
  all_goals first | rfl | trace_state
end Go.Proofs.Ytmicpjholmigeaa
