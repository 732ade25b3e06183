/-
  (heavy) (rows) What this text proves: the laws PumpKnown and PumpLonger return true. Conditions: the values read as lists.
-/
import Derived.Test.YtlphfobpheefkaaVBi
import Derived.Test.YtlphfobpheefkaaVAv
set_option linter.unusedVariables false
set_option linter.unusedSimpArgs false
namespace Go.Pv
open Go.RowKit Go.Sort
theorem drop3_w : dropL [LB] [KB] 3 = (5, 1) := by kernel_rfl
theorem row2_w : rwTo [KB, KB] 2 2 = 0 := by kernel_rfl
theorem row5_w : rwTo [KB, KB] 2 5 = 8 := by kernel_rfl
def dX (j : Nat) : List Int := if j = 0 then [5, 5, 0, 0] else []
theorem crs_x : crsErr [LB] [KB] 1 1 dX cW = 21 := by
  have e : ∀ j, j < 1 → j = 0 := fun j hj => by omega
  have a2 : lenTo (allA 1 dX cW) (dX 0).length (1 + 1) := fun j hj => by
    have : j = 0 ∨ j = 1 := by omega
    rcases this with rfl | rfl <;> rfl
  have a4 : amtsTo (allA 1 dX cW) (1 + 1) := fun j hj => by
    have : j = 0 ∨ j = 1 := by omega
    rcases this with rfl | rfl
    · exact amtB_ok (by kernel_rfl)
    · exact amtB_ok (by kernel_rfl)
  rw [crs_pos (pls := [LB]) (rs := [KB]) (nd := 1) (nc := 1) ⟨rfl, rfl⟩ a2 (by decide) a4, pos_no (fun h => ?_)]
  · rfl
  · have := h.1 0 (by decide)
    rw [← keeps_iff] at this
    exact absurd this (by rw [show keepsL (([LB] : List (List (Int × Int))).getD 0 []) (dX 0) = false by kernel_rfl]; decide)
theorem setB_get {hs : List (Int × Int)} (hh : ∀ j, 0 ≤ (hs.getD j (0, 0)).1 ∧ (hs.getD j (0, 0)).1 ≤ 255 ∧ 0 ≤ (hs.getD j (0, 0)).2 ∧ (hs.getD j (0, 0)).2 ≤ 255) : ∀ i, i < (setB hs).length → (1 ≤ ((setB hs).getD i (0, 0)).1 ∧ ((setB hs).getD i (0, 0)).1 ≤ 4) ∧ 0 ≤ ((setB hs).getD i (0, 0)).2 ∧ ((setB hs).getD i (0, 0)).2 ≤ 5 := by
  intro i hi
  have hl := setTo_len (hs := hs) (k := min 3 hs.length) (by omega)
  unfold setB at hi ⊢
  rw [hl] at hi
  unfold setTo
  split
  · next e => have : i = 0 := by omega
              subst this; decide
  · next e =>
    have h1 : i < hs.length := by omega
    have h2 : ((hs.take (min 3 hs.length)).map mkB).getD i (0, 0) = mkB (hs.getD i (0, 0)) := by
      simp only [List.getD_eq_getElem?_getD, List.getElem?_map]
      rw [List.getElem?_take_of_lt (by omega)]
      simp [h1]
    rw [h2]
    have := hh i
    unfold mkB
    dsimp only
    omega
theorem setB_ok {hs : List (Int × Int)} (hh : ∀ j, 0 ≤ (hs.getD j (0, 0)).1 ∧ (hs.getD j (0, 0)).1 ≤ 255 ∧ 0 ≤ (hs.getD j (0, 0)).2 ∧ (hs.getD j (0, 0)).2 ≤ 255) : bErr (setB hs) = 0 := by
  have hl := setB_len hs
  unfold bErr
  rw [if_neg (by omega), if_neg (by omega), if_pos (show bdTo (setB hs) (setB hs).length from fun i hi => by have := setB_get hh i hi; unfold bdOk; omega)]
theorem lErr_ok {l : List (Int × Int)} {t : Int} (h : bErr l = 0) (ht : 0 ≤ t ∧ t ≤ 200) : lErr l t = 0 := by unfold lErr; rw [if_pos h, if_pos ht]
end Go.Pv
namespace Go.Proofs.Ytlphfobpheefkaa
open Go.Pv Go.RowKit Go.Sort
set_option maxHeartbeats 8000000
set_option maxRecDepth 20000
theorem mostN (v : Value) (l : List (Int × Int)) (t : Int) (w : World) (h : Prs w v l) (hb : bErr l = 0) (ht : 0 ≤ t ∧ t ≤ 200) : Ret Try.prog 14 [v, .int .i64 t] w fun r _ => r = .tuple #[.int .i64 (moN l t.toNat), .int .i64 0] := by
  have := Most_any v l t w h
  rwa [lErr_ok hb ht, if_pos rfl] at this
theorem leastN (v : Value) (l : List (Int × Int)) (t : Int) (w : World) (h : Prs w v l) (hb : bErr l = 0) (ht : 0 ≤ t ∧ t ≤ 200) : Ret Try.prog 16 [v, .int .i64 t] w fun r _ => r = .tuple #[.int .i64 (leN l t.toNat), .int .i64 0] := by
  have := Least_any v l t w h
  rwa [lErr_ok hb ht, if_pos rfl] at this
theorem wMostNil (w : World) : Ret Try.prog 14 [.slice none 0 0, .int .i64 1] w fun r _ => r = .tuple #[.int .i64 0, .int .i64 4] := by
  have := Most_any (.slice none 0 0) [] (1 : Nat) w (OwnP.prs (OwnP.nil 0 0 w))
  rwa [show lErr [] ((1 : Nat) : Int) = 4 by decide, if_neg (by decide)] at this
section
variable (pv rv : Value) (us vs : List Value) (w : World) (h : Vals w pv us) (hx : BLs w us [LB]) (h2 : Vals w rv vs)
include h hx h2
theorem wRow2 (hx2 : BLs w vs [KB, KB]) : Ret Try.prog 35 [.agg #[pv, rv], .int .i64 2] w fun r _ => r = .tuple #[.int .i64 0, .int .i64 0] := by
  have := Row_any pv rv us vs [LB] [KB, KB] (2 : Nat) w h hx h2 hx2
  rwa [show ptErr [LB] [KB, KB] ((2 : Nat) : Int) = 0 by decide, if_pos rfl, Int.toNat_natCast, show ([KB, KB] : List (List (Int × Int))).length = 2 from rfl, row2_w] at this
theorem wRow5 (hx2 : BLs w vs [KB, KB]) : Ret Try.prog 35 [.agg #[pv, rv], .int .i64 5] w fun r _ => r = .tuple #[.int .i64 8, .int .i64 0] := by
  have := Row_any pv rv us vs [LB] [KB, KB] (5 : Nat) w h hx h2 hx2
  rwa [show ptErr [LB] [KB, KB] ((5 : Nat) : Int) = 0 by decide, if_pos rfl, Int.toNat_natCast, show ([KB, KB] : List (List (Int × Int))).length = 2 from rfl, row5_w] at this
variable (hx2 : BLs w vs [KB])
include hx2
theorem wDrop3 : Ret Try.prog 31 [.agg #[pv, rv], .int .i64 3] w fun r _ => r = .tuple #[.int .i64 5, .int .i64 1, .int .i64 0] := by
  have := Drop_any pv rv us vs [LB] [KB] (3 : Nat) w h hx h2 hx2
  rwa [show ptErr [LB] [KB] ((3 : Nat) : Int) = 0 by decide, if_pos rfl, if_pos rfl, Int.toNat_natCast, drop3_w] at this
theorem wLacksX (dv cv du cu : Value) (h3 : Vals w dv [du]) (h4 : Vals w cv [cu]) (h5 : Ints w du [5, 5, 0, 0]) (h6 : Ints w cu [0, 4, 0, 4]) : Ret Try.prog 29 [.agg #[pv, rv], .agg #[dv, cv]] w fun r w' => r = .tuple #[.slice none 0 0, .slice none 0 0, .int .i64 21] := by
  have := Lacks_any pv rv dv cv us vs [du] [cu] [LB] [KB] dX cW w h hx h2 hx2 h3 h4 (fun j hj => by have : j = 0 := (by simp at hj; omega); subst this; exact h5) (fun j hj => by have : j = 0 := (by simp at hj; omega); subst this; exact h6)
  refine this.mono fun r w' ⟨lv, yv, e, h7, h8⟩ => ?_
  have a1 : pErr [LB] [KB] = 0 := by decide
  have a2 : crsErr [LB] [KB] ([du] : List Value).length ([cu] : List Value).length dX cW = 21 := crs_x
  rcases h8 with ⟨h9, _⟩ | ⟨_, _, h10, h11, h12⟩ | ⟨_, h9, _⟩
  · exact absurd a1 h9
  · rw [h7, h10, h11, h12, a2]
  · rw [a2] at h9; exact absurd h9 (by decide)
end
theorem lawKnown_any (w : World) : Ret Try.prog 11 [] w fun r _ => r = .bool true := by
  have tkA : True := trivial
  refine ret_of_c Try.func11 rfl Try.ntmps11 (Nat.le_of_ble_eq_true rfl) (by dsimp only [ini, Nat.reduceAdd] <;> exact rfl) ?_
  repeat' (first
      | ((with_reducible apply W_split); exact rfl; exact rfl; intro _; rotate_left 1; intro _; (all_goals (try (exfalso; (focus (omega; done))))))
      | (have _ := tkA; refine W_call (P_any _) rfl ?_; rintro vq wQ ⟨pv, rv, us, vs, rfl, hP1, hP2, hP3, hP4⟩ heQ; have hsz := heQ.size; (have hn1 := hP1.one); (have hn2 := hP3.one); clear tkA; have tkB : True := trivial)
      | (clear tkB; refine W_callv (wDrop3 pv rv us vs _ hP1 hP2 hP3 hP4) rfl (fun wq he => ?_); have hsz := he.size; have tkC : True := trivial)
      | (clear tkC; refine W_call (Q_any _) rfl ?_; rintro vq wQ ⟨pv, rv, us, vs, rfl, hP1, hP2, hP3, hP4⟩ heQ; have hsz := heQ.size; (have hn1 := hP1.one); (have hn2 := hP3.one); have tkD : True := trivial)
      | (clear tkD; refine W_callv (wRow2 pv rv us vs _ hP1 hP2 hP3 hP4) rfl (fun wq he => ?_); have hsz := he.size; have tkE : True := trivial)
      | (clear tkE; refine W_call (Q_any _) rfl ?_; rintro vq wQ ⟨pv, rv, us, vs, rfl, hP1, hP2, hP3, hP4⟩ heQ; have hsz := heQ.size; (have hn1 := hP1.one); (have hn2 := hP3.one); have tkF : True := trivial)
      | (clear tkF; refine W_callv (wRow5 pv rv us vs _ hP1 hP2 hP3 hP4) rfl (fun wq he => ?_); have hsz := he.size; have tkG : True := trivial)
      | (clear tkG; refine W_call (P_any _) rfl ?_; rintro vq wQ ⟨pv, rv, us, vs, rfl, hP1, hP2, hP3, hP4⟩ heQ; have hsz := heQ.size; (have hn1 := hP1.one); (have hn2 := hP3.one); have tkR : True := trivial)
      | (have _ := tkR; refine W_bsG (N := 4) (n := 1) (qs := [(0, .int .i64 5), (1, .int .i64 5), (2, .int .i64 0), (3, .int .i64 0)]) (c := [.int .i64 5, .int .i64 5, .int .i64 0, .int .i64 0]) rfl rfl (by kernel_rfl) ?_; intro bd wq hb4 he hnq; have hltq := Bx.lt hb4; have hsz := he.size; (have hiSbd := IntsK.built (xs := [5, 5, 0, 0]) hb4 rfl (by simp)); have hiS1 := hiSbd.one; clear tkR; have tkS : True := trivial)
      | (have _ := tkS; clear tkS; (with_reducible apply W_bs1); ((conv => lhs; whnf) <;> exact rfl); (first | exact rfl | assumption | exact IntsK.one (by assumption) | exact Prs.one (by assumption) | exact OwnP.one (by assumption) | exact Own.one (by assumption) | exact Row.one (by assumption) | exact OwnR.one (by assumption)); decide; decide; exact rfl; exact rfl; ((simp only [lay, lset, List.replicate_succ, List.replicate_zero]) <;> exact rfl); intro b139 wq hbq he hnq; have hltq := Bx.lt hbq; have hsz := he.size; (have hx139 : Bx wq b139 [.slice (some ⟨bd, 0, none⟩) 4 4] 30 := hbq); have tkT : True := trivial)
      | (have _ := tkT; refine W_bsG (N := 4) (n := 1) (qs := [(0, .int .i64 0), (1, .int .i64 4), (2, .int .i64 0), (3, .int .i64 4)]) (c := [.int .i64 0, .int .i64 4, .int .i64 0, .int .i64 4]) rfl rfl (by kernel_rfl) ?_; intro bc wq hb4 he hnq; have hltq := Bx.lt hb4; have hsz := he.size; (have hiSbc := IntsK.built (xs := [0, 4, 0, 4]) hb4 rfl (by simp)); have hiS1 := hiSbc.one; clear tkT; have tkU : True := trivial)
      | (have _ := tkU; clear tkU; (with_reducible apply W_bs1); ((conv => lhs; whnf) <;> exact rfl); (first | exact rfl | assumption | exact IntsK.one (by assumption) | exact Prs.one (by assumption) | exact OwnP.one (by assumption) | exact Own.one (by assumption) | exact Row.one (by assumption) | exact OwnR.one (by assumption)); decide; decide; exact rfl; exact rfl; ((simp only [lay, lset, List.replicate_succ, List.replicate_zero]) <;> exact rfl); intro b141 wq hbq he hnq; have hltq := Bx.lt hbq; have hsz := he.size; (have hx141 : Bx wq b141 [.slice (some ⟨bc, 0, none⟩) 4 4] 30 := hbq); have tkV : True := trivial)
      | (clear tkV; refine W_callv (wLacksX pv rv us vs _ (Vals.ex (by repeat (first | exact Ex.refl _ | assumption | (refine Ex.of_grown ?_ (by assumption) (by intro k hk; cases hk; omega)) | (refine Ex.trans ?_ (by assumption)))) hP1) (BLs.ex (by repeat (first | exact Ex.refl _ | assumption | (refine Ex.of_grown ?_ (by assumption) (by intro k hk; cases hk; omega)) | (refine Ex.trans ?_ (by assumption)))) hP2) (Vals.ex (by repeat (first | exact Ex.refl _ | assumption | (refine Ex.of_grown ?_ (by assumption) (by intro k hk; cases hk; omega)) | (refine Ex.trans ?_ (by assumption)))) hP3) (BLs.ex (by repeat (first | exact Ex.refl _ | assumption | (refine Ex.of_grown ?_ (by assumption) (by intro k hk; cases hk; omega)) | (refine Ex.trans ?_ (by assumption)))) hP4) _ _ _ _ (Vals.built (E := 30) (Bx.ex (by repeat (first | exact Ex.refl _ | assumption | (refine Ex.of_grown ?_ (by assumption) (by intro k hk; cases hk; omega)) | (refine Ex.trans ?_ (by assumption)))) hx139) rfl (by simp)) (Vals.built (E := 30) (Bx.ex (by repeat (first | exact Ex.refl _ | assumption | (refine Ex.of_grown ?_ (by assumption) (by intro k hk; cases hk; omega)) | (refine Ex.trans ?_ (by assumption)))) hx141) rfl (by simp)) (IntsK.ex (by repeat (first | exact Ex.refl _ | assumption | (refine Ex.of_grown ?_ (by assumption) (by intro k hk; cases hk; omega)) | (refine Ex.trans ?_ (by assumption)))) hiSbd) (IntsK.ex (by repeat (first | exact Ex.refl _ | assumption | (refine Ex.of_grown ?_ (by assumption) (by intro k hk; cases hk; omega)) | (refine Ex.trans ?_ (by assumption)))) hiSbc)) rfl (fun wq he => ?_); have hsz := he.size; have tkW : True := trivial)
      | (have _ := tkW; refine W_callv (wMostNil _) rfl (fun wq he => ?_); have hsz := he.size)
      | (have _ := tkW; refine W_callv (works_any _) rfl (fun wq he => ?_); have hsz := he.size)
      | ((first | ((with_reducible apply W_op); exact rfl; exact rfl)); (first | ((with_reducible apply r_move); ((conv => lhs; whnf) <;> exact rfl)) | ((with_reducible apply r_assign); ((conv => lhs; whnf) <;> exact rfl)) | ((with_reducible apply r_eql); exact rfl; exact rfl) | ((with_reducible apply r_pick_true); exact rfl; ((conv => lhs; whnf) <;> exact rfl)) | ((with_reducible apply r_extract); exact rfl; exact rfl) | ((with_reducible apply r_build2); ((conv => lhs; whnf) <;> exact rfl); ((conv => lhs; whnf) <;> exact rfl); (first | exact rfl | assumption | exact IntsK.one (by assumption) | exact Prs.one (by assumption) | exact OwnP.one (by assumption) | exact Own.one (by assumption) | exact Row.one (by assumption) | exact OwnR.one (by assumption)); (first | exact rfl | assumption | exact IntsK.one (by assumption) | exact Prs.one (by assumption) | exact OwnP.one (by assumption) | exact Own.one (by assumption) | exact Row.one (by assumption) | exact OwnR.one (by assumption)); exact rfl; exact rfl; ((simp only [lay, lset, List.replicate_succ, List.replicate_zero]) <;> exact rfl))))
      | (with_reducible apply W_nil)
      | ((with_reducible apply W_take); exact rfl; exact rfl; exact rfl)
      | (with_reducible apply c_seq)
      | ((with_reducible apply c_region); kernel_rfl)
      | (with_reducible apply n_nq)
      | (with_reducible apply c_ret)
      | (with_reducible apply n_then)
      | ((with_reducible apply p_ret1); exact rfl; exact rfl; ((conv => lhs; whnf) <;> exact rfl); refine ⟨_, rfl, ?_, (by repeat (first | assumption | exact Ex.refl _ | (refine Ex.trans ?_ (by assumption)) | (refine Ex.of_grown ?_ (by assumption) (by intro k hk; cases hk; omega))))⟩))
  all_goals first
    | rfl
    | (exfalso; rename_i hh; exact hh rfl)
    | trace_state
theorem lawLonger_any (v : Value) (hs : List (Int × Int)) (a b : Int) (w : World) (h : Prs8 w v hs) (hh : ∀ j, 0 ≤ (hs.getD j (0, 0)).1 ∧ (hs.getD j (0, 0)).1 ≤ 255 ∧ 0 ≤ (hs.getD j (0, 0)).2 ∧ (hs.getD j (0, 0)).2 ≤ 255) (ha : 0 ≤ a ∧ a ≤ 255) (hb : 0 ≤ b ∧ b ≤ 255) :
    Ret Try.prog 8 [v, .agg #[.int .u8 a, .int .u8 b]] w fun r _ => r = .bool true := by
  have hv1 := h.one
  obtain ⟨l, hl⟩ : ∃ l, setB hs = l := ⟨_, rfl⟩
  have hbe := hl ▸ setB_ok hh
  have hbi := bErr_inv hbe
  have hma := fun w2 (e : Ex w w2) => made_any v hs w2 (Prs8.ex e h) hh
  rw [hl] at hma
  obtain ⟨m, hm⟩ : ∃ m : Nat, a % 100 = m := ⟨(a % 100).toNat, by omega⟩
  obtain ⟨n, hn⟩ : ∃ n : Nat, b % 100 = n := ⟨(b % 100).toNat, by omega⟩
  have e1 : (a % 100).toNat = m := by omega
  have e2 : (b % 100).toNat = n := by omega
  have e3 : (a % 100 + b % 100).toNat = m + n := by omega
  have f1 := mo_add hbi.1.1 hbi.2 m n
  have f2 := mo_mono hbi.1.1 hbi.2 (show m ≤ m + n by omega)
  have f3 := mo_mono hbi.1.1 hbi.2 (show n ≤ m + n by omega)
  have f4 := le_add hbi.2 m n
  have g1 := mo_bd hbi.1.1 hbi.2 m
  have g2 := mo_bd hbi.1.1 hbi.2 n
  have g3 := mo_bd hbi.1.1 hbi.2 (m + n)
  have g4 := le_bd hbi.2 m
  have g5 := le_bd hbi.2 n
  have g6 := le_bd hbi.2 (m + n)
  have hM := fun (vv : Value) (t : Int) (k : Nat) (ht : 0 ≤ t ∧ t ≤ 200) (hk : t.toNat = k) w2 (hp : Prs w2 vv l) => (hk ▸ mostN vv l t w2 hp hbe ht : Ret Try.prog 14 [vv, .int .i64 t] w2 fun r _ => r = .tuple #[.int .i64 (moN l k), .int .i64 0])
  have hL := fun (vv : Value) (t : Int) (k : Nat) (ht : 0 ≤ t ∧ t ≤ 200) (hk : t.toNat = k) w2 (hp : Prs w2 vv l) => (hk ▸ leastN vv l t w2 hp hbe ht : Ret Try.prog 16 [vv, .int .i64 t] w2 fun r _ => r = .tuple #[.int .i64 (leN l k), .int .i64 0])
  have tkA : True := trivial
  refine ret_of_c Try.func8 rfl Try.ntmps8 (Nat.le_of_ble_eq_true rfl) (by dsimp only [ini, Nat.reduceAdd] <;> exact rfl) ?_
  repeat' (first
      | ((with_reducible apply W_split); exact rfl; exact rfl; intro _; rotate_left 1; intro hsx; (all_goals (try (exfalso; (focus (first | exact hsx rfl | omega; done))))))
      | ((with_reducible apply c_cond_dec); exact rfl; intro _; rotate_left 1; intro _; (all_goals (try (exfalso; (focus (omega; done))))))
      | (clear tkA; refine W_call (hma _ (show Ex w _ from (by repeat (first | exact Ex.refl _ | assumption | (refine Ex.of_grown ?_ (by assumption) (by intro k hk; cases hk; omega)) | (refine Ex.trans ?_ (by assumption)))))) rfl ?_; rintro lv wl hlo hel; have hsz := hel.size; (have hlv1 := OwnP.one hlo); (have hlp := OwnP.prs hlo); have tkB : True := trivial)
      | (have _ := tkB; refine W_callv (hM lv (a % 100) m (by omega) e1 _ (Prs.ex (show Ex wl _ from (by repeat (first | exact Ex.refl _ | assumption | (refine Ex.of_grown ?_ (by assumption) (by intro k hk; cases hk; omega)) | (refine Ex.trans ?_ (by assumption))))) hlp)) rfl (fun wq he => ?_); have hsz := he.size)
      | (have _ := tkB; refine W_callv (hM lv (b % 100) n (by omega) e2 _ (Prs.ex (show Ex wl _ from (by repeat (first | exact Ex.refl _ | assumption | (refine Ex.of_grown ?_ (by assumption) (by intro k hk; cases hk; omega)) | (refine Ex.trans ?_ (by assumption))))) hlp)) rfl (fun wq he => ?_); have hsz := he.size)
      | (have _ := tkB; refine W_callv (hM lv (a % 100 + b % 100) (m + n) (by omega) e3 _ (Prs.ex (show Ex wl _ from (by repeat (first | exact Ex.refl _ | assumption | (refine Ex.of_grown ?_ (by assumption) (by intro k hk; cases hk; omega)) | (refine Ex.trans ?_ (by assumption))))) hlp)) rfl (fun wq he => ?_); have hsz := he.size)
      | (have _ := tkB; refine W_callv (hL lv (a % 100) m (by omega) e1 _ (Prs.ex (show Ex wl _ from (by repeat (first | exact Ex.refl _ | assumption | (refine Ex.of_grown ?_ (by assumption) (by intro k hk; cases hk; omega)) | (refine Ex.trans ?_ (by assumption))))) hlp)) rfl (fun wq he => ?_); have hsz := he.size)
      | (have _ := tkB; refine W_callv (hL lv (b % 100) n (by omega) e2 _ (Prs.ex (show Ex wl _ from (by repeat (first | exact Ex.refl _ | assumption | (refine Ex.of_grown ?_ (by assumption) (by intro k hk; cases hk; omega)) | (refine Ex.trans ?_ (by assumption))))) hlp)) rfl (fun wq he => ?_); have hsz := he.size)
      | (have _ := tkB; refine W_callv (hL lv (a % 100 + b % 100) (m + n) (by omega) e3 _ (Prs.ex (show Ex wl _ from (by repeat (first | exact Ex.refl _ | assumption | (refine Ex.of_grown ?_ (by assumption) (by intro k hk; cases hk; omega)) | (refine Ex.trans ?_ (by assumption))))) hlp)) rfl (fun wq he => ?_); have hsz := he.size)
      | (have _ := tkB; refine W_callv (works_any _) rfl (fun wq he => ?_); have hsz := he.size)
      | ((first | ((with_reducible apply W_op); exact rfl; exact rfl) | ((with_reducible apply WQ_op); exact rfl; exact rfl; intro wq he) | ((with_reducible apply WM_op); exact rfl; exact rfl; intro wq he) | ((with_reducible apply WB_op); exact rfl; exact rfl; intro wq)); (first | ((with_reducible apply r_conv8); exact rfl; omega) | ((with_reducible apply r_remE); exact rfl; exact rfl; omega; omega) | (exact r_indexArr (i := 0) rfl rfl (by decide)) | (exact r_indexArr (i := 1) rfl rfl (by decide)) | ((with_reducible apply r_move); ((conv => lhs; whnf) <;> exact rfl)) | ((with_reducible apply r_assign); ((conv => lhs; whnf) <;> exact rfl)) | ((with_reducible apply r_load); exact rfl; exact rfl; (first | assumption | exact (Bx.cell (by repeat (first | assumption | ((with_reducible apply Bx.grownS); assumption; (first | omega | exact Bx.ne (by assumption) (by omega))) | ((with_reducible apply Bx.below); assumption; omega) | ((with_reducible apply Bx.ex); assumption))) _).trans rfl | exact Ex.cell (by assumption) (by assumption))) | ((with_reducible apply r_lss); exact rfl; exact rfl) | ((with_reducible apply r_gtr); exact rfl; exact rfl) | ((with_reducible apply r_geq); exact rfl; exact rfl) | ((with_reducible apply r_eql); exact rfl; exact rfl) | ((with_reducible apply r_neq); exact rfl; exact rfl) | ((with_reducible apply r_add); exact rfl; exact rfl; omega) | ((with_reducible apply r_pick_true); exact rfl; ((conv => lhs; whnf) <;> exact rfl)) | ((with_reducible apply r_pick_false); exact rfl; ((conv => lhs; whnf) <;> exact rfl)) | ((with_reducible apply r_extract); exact rfl; exact rfl) | ((with_reducible apply r_max2); exact rfl; exact rfl)))
      | (with_reducible apply W_nil)
      | ((with_reducible apply WQ_nil); exact rfl; intro wq he; have hsz := he.size)
      | ((with_reducible apply W_box); exact rfl; exact rfl; intro bq wq hbq he hnq; have hltq := Bx.lt hbq; have hsz := he.size)
      | ((with_reducible apply W_take); exact rfl; exact rfl; exact rfl)
      | ((with_reducible apply c_quiet); kernel_rfl)
      | (with_reducible apply c_seq)
      | ((with_reducible apply c_region); kernel_rfl)
      | (with_reducible apply n_nq)
      | (with_reducible apply c_skip)
      | (with_reducible apply c_ret)
      | (with_reducible apply n_then)
      | ((with_reducible apply p_ret1); exact rfl; exact rfl; ((conv => lhs; whnf) <;> exact rfl); refine ⟨_, rfl, ?_, (by repeat (first | assumption | exact Ex.refl _ | (refine Ex.trans ?_ (by assumption)) | (refine Ex.of_grown ?_ (by assumption) (by intro k hk; cases hk; omega))))⟩))
  all_goals first
    | rfl
    | (exfalso; rename_i hh; exact hh rfl)
    | trace_state
end Go.Proofs.Ytlphfobpheefkaa
