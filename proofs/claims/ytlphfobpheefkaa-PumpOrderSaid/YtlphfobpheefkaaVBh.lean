/-
  (heavy) (rows) What this text proves: the examples of the chapter hold. Conditions: none.
-/
import Derived.Test.YtlphfobpheefkaaVBg
set_option linter.unusedVariables false
set_option linter.unusedSimpArgs false
namespace Go.Pv
open Go.RowKit Go.Sort
theorem Ret.mono {P : Program} {f : FuncId} {args : List Value} {w : World} {φ ψ : Value → World → Prop} (h : Ret P f args w φ) (hk : ∀ r w', φ r w' → ψ r w') : Ret P f args w ψ := by
  unfold Ret at *
  exact Calls.mono h fun e w' ⟨v, e1, h2, h3⟩ => ⟨v, e1, hk v w' h2, h3⟩
theorem lErr_w {k : Nat} (h : k ≤ 200) : lErr LB k = 0 ∧ lErr KB k = 0 := by
  have h1 : bErr LB = 0 := by decide
  have h2 : bErr KB = 0 := by decide
  unfold lErr
  rw [if_pos h1, if_pos h2, if_pos (by omega)]
  exact ⟨rfl, rfl⟩
theorem most_at {k : Nat} (h : k < 6) : moN LB k = ([0, 5, 9, 9, 14, 18] : List Int).getD k 0 := by
  rw [← most_w]; simp [h]
theorem least_at {k : Nat} (h : k < 6) : leN KB k = ([0, 0, 4, 4, 8, 15] : List Int).getD k 0 := by
  rw [← least_w]; simp [h]
end Go.Pv
namespace Go.Proofs.Ytlphfobpheefkaa
open Go.Pv Go.RowKit Go.Sort
set_option maxHeartbeats 8000000
set_option maxRecDepth 20000
theorem wMost (v : Value) (k : Nat) (hk : k < 6) (w : World) (h : Prs w v LB) : Ret Try.prog 14 [v, .int .i64 (k : Int)] w fun r _ => r = .tuple #[.int .i64 (([0, 5, 9, 9, 14, 18] : List Int).getD k 0), .int .i64 0] := by
  have := Most_any v LB k w h
  rwa [(lErr_w (k := k) (by omega)).1, if_pos rfl, Int.toNat_natCast, most_at hk] at this
theorem wLeast (v : Value) (k : Nat) (hk : k < 6) (w : World) (h : Prs w v KB) : Ret Try.prog 16 [v, .int .i64 (k : Int)] w fun r _ => r = .tuple #[.int .i64 (([0, 0, 4, 4, 8, 15] : List Int).getD k 0), .int .i64 0] := by
  have := Least_any v KB k w h
  rwa [(lErr_w (k := k) (by omega)).2, if_pos rfl, Int.toNat_natCast, least_at hk] at this
theorem wCover (v : Value) (w : World) (h : Prs w v LB) : Ret Try.prog 18 [v, .int .i64 5] w fun r w' => ∃ u, r = .tuple #[u, .int .i64 0] ∧ Ints w' u [1, 1] := by
  have := Cover_any v LB (5 : Nat) w h
  rw [(lErr_w (k := 5) (by omega)).1, if_pos rfl, Int.toNat_natCast, cover_w] at this
  exact this.mono fun r w' ⟨u, h1, h2⟩ => ⟨u, h1, h2.ints⟩
theorem wPack (v : Value) (w : World) (h : Prs w v KB) : Ret Try.prog 19 [v, .int .i64 7] w fun r w' => ∃ u, r = .tuple #[u, .int .i64 0] ∧ Ints w' u [0, 1] := by
  have := Pack_any v KB (7 : Nat) w h
  rw [(lErr_w (k := 7) (by omega)).2, if_pos rfl, Int.toNat_natCast, pack_w] at this
  exact this.mono fun r w' ⟨u, h1, h2⟩ => ⟨u, h1, h2.ints⟩
section
variable (pv rv : Value) (us vs : List Value) (w : World) (h : Vals w pv us) (hx : BLs w us [LB]) (h2 : Vals w rv vs)
include h hx h2
theorem wRow (hx2 : BLs w vs [KB, KB]) : Ret Try.prog 35 [.agg #[pv, rv], .int .i64 3] w fun r _ => r = .tuple #[.int .i64 4, .int .i64 0] := by
  have := Row_any pv rv us vs [LB] [KB, KB] (3 : Nat) w h hx h2 hx2
  rwa [show ptErr [LB] [KB, KB] ((3 : Nat) : Int) = 0 by decide, if_pos rfl, Int.toNat_natCast, show ([KB, KB] : List (List (Int × Int))).length = 2 from rfl, row_w] at this
variable (hx2 : BLs w vs [KB])
include hx2
theorem wDrop : Ret Try.prog 31 [.agg #[pv, rv], .int .i64 6] w fun r _ => r = .tuple #[.int .i64 6, .int .i64 4, .int .i64 0] := by
  have := Drop_any pv rv us vs [LB] [KB] (6 : Nat) w h hx h2 hx2
  rwa [show ptErr [LB] [KB] ((6 : Nat) : Int) = 0 by decide, if_pos rfl, if_pos rfl, Int.toNat_natCast, drop_w] at this
theorem wDelay : Ret Try.prog 32 [.agg #[pv, rv], .int .i64 6] w fun r _ => r = .tuple #[.int .i64 3, .int .i64 0] := by
  have := Delay_any pv rv us vs [LB] [KB] (6 : Nat) w h hx h2 hx2
  have e : dlErr [LB] [KB] ((6 : Nat) : Int) = 0 := by
    unfold dlErr
    rw [if_pos (by decide), Int.toNat_natCast, delayL_w]; rfl
  rwa [e, if_pos rfl, Int.toNat_natCast, delayL_w] at this
theorem wWorst : Ret Try.prog 33 [.agg #[pv, rv], .int .i64 6] w fun r w' => ∃ dv cv du cu, r = .tuple #[.agg #[dv, cv], .int .i64 0] ∧ Vals w' dv [du] ∧ Vals w' cv [cu] ∧ Ints w' du [5, 4, 0, 5] ∧ Ints w' cu [0, 4, 0, 4] := by
  have := Worst_any pv rv us vs [LB] [KB] (6 : Nat) w h hx h2 hx2
  rw [show ptErr [LB] [KB] ((6 : Nat) : Int) = 0 by decide, Int.toNat_natCast, drop_w] at this
  refine this.mono fun r w' ⟨dv, cv, h1, h3⟩ => ?_
  rcases h3 with ⟨h4, _⟩ | ⟨_, ds, cs, h5, h6, h7, h8, h9, h10⟩
  · exact absurd rfl h4
  · have a1 := (h9 0 (by decide)).1
    have a2 := (h10 0 (by decide)).1
    match ds, h7 with
    | [du], _ => match cs, h8 with
      | [cu], _ =>
        have a1' : Ints w' du (growL (moN LB) 4) := a1
        have a2' : Ints w' cu (slowL (leN KB) 4 (frS (shTo [KB]) 1 4 0) (partS (shTo [KB]) 1 4 0).toNat) := a2
        rw [grow_w] at a1'
        rw [slow_w] at a2'
        exact ⟨dv, cv, du, cu, h1, h5.1, h6.1, a1', a2'⟩
theorem wLacks (dv cv du cu : Value) (h3 : Vals w dv [du]) (h4 : Vals w cv [cu]) (h5 : Ints w du [5, 4, 0, 5]) (h6 : Ints w cu [0, 4, 0, 4]) : Ret Try.prog 29 [.agg #[pv, rv], .agg #[dv, cv]] w fun r w' => ∃ lv yv, r = .tuple #[lv, yv, .int .i64 0] ∧ Ints w' lv [5, 5, 5, 6] ∧ Ints w' yv [3, -1, -1, -1] := by
  have := Lacks_any pv rv dv cv us vs [du] [cu] [LB] [KB] dW cW w h hx h2 hx2 h3 h4 (fun j hj => by have : j = 0 := (by simp at hj; omega); subst this; exact h5) (fun j hj => by have : j = 0 := (by simp at hj; omega); subst this; exact h6)
  refine this.mono fun r w' ⟨lv, yv, e, h7, h8⟩ => ?_
  have a1 : pErr [LB] [KB] = 0 := by decide
  have a2 : crsErr [LB] [KB] ([du] : List Value).length ([cu] : List Value).length dW cW = 0 := crs_w
  rcases h8 with ⟨h9, _⟩ | ⟨_, h9, _⟩ | ⟨_, _, rfl, h10, h11⟩
  · exact absurd a1 h9
  · exact absurd a2 h9
  · refine ⟨lv, yv, h7, ?_, ?_⟩
    · rw [← lack_w]; exact h10
    · rw [← delay_w]; exact h11
end
theorem works_any (w : World) : Ret Try.prog 12 [] w fun r _ => r = .bool true := by
  have tkA : True := trivial
  have tkB : True := trivial
  have tk1 : True := trivial
  have tk2 : True := trivial
  refine ret_of_c Try.func12 rfl Try.ntmps12 (Nat.le_of_ble_eq_true rfl) (by dsimp only [ini, Nat.reduceAdd] <;> exact rfl) ?_
  repeat' (first
      | ((with_reducible apply W_split); exact rfl; exact rfl; intro _; rotate_left 1; intro _; (all_goals (try (exfalso; (focus (omega; done))))))
      | (clear tkA; refine W_bsG (N := 6) (n := 1) (qs := [(0, .int .i64 0), (1, .int .i64 5), (2, .int .i64 9), (3, .int .i64 9), (4, .int .i64 14), (5, .int .i64 18)]) (c := [.int .i64 0, .int .i64 5, .int .i64 9, .int .i64 9, .int .i64 14, .int .i64 18]) rfl rfl (by kernel_rfl) ?_; intro b24 wq hb24 he hnq; have hltq := Bx.lt hb24; have hsz := he.size; (have him := IntsK.built (xs := [0, 5, 9, 9, 14, 18]) hb24 rfl (by simp)); have him1 := him.one)
      | (clear tkB; refine W_bsG (N := 6) (n := 1) (qs := [(0, .int .i64 0), (1, .int .i64 0), (2, .int .i64 4), (3, .int .i64 4), (4, .int .i64 8), (5, .int .i64 15)]) (c := [.int .i64 0, .int .i64 0, .int .i64 4, .int .i64 4, .int .i64 8, .int .i64 15]) rfl rfl (by kernel_rfl) ?_; intro b25 wA hb25 he hnq; have hltq := Bx.lt hb25; have hsz := he.size; (have hil := IntsK.built (xs := [0, 0, 4, 4, 8, 15]) hb25 rfl (by simp)); have hil1 := hil.one; (have him := IntsK.ex he him); have tkC : True := trivial)
      | ((with_reducible (show C _ _ _ _ _ _)); clear tkC; refine c_loopG (fun (k : Nat) ps wr => ∃ i : Int, ps = [(1, .slice (some ⟨b24, 0, none⟩) 6 6), (2, .slice (some ⟨b25, 0, none⟩) 6 6), (3, .int .i64 i)] ∧ i = k ∧ k ≤ 6 ∧ Ex wA wr ∧ Ex w wr) (fun k => 6 - k) 0 _ ⟨_, rfl, rfl, Nat.zero_le _, Ex.refl _, (by repeat (first | assumption | exact Ex.refl _ | (refine Ex.trans ?_ (by assumption)) | (refine Ex.of_grown ?_ (by assumption) (by intro k hk; cases hk; omega))))⟩ ⟨rfl, rfl, rfl, trivial⟩ (by ((conv => lhs; whnf) <;> exact rfl)) (by ((conv => lhs; whnf) <;> exact rfl)) ?_; rintro J hJ k u ps wr ⟨i, rfl, rfl, hk, hewA, he⟩; have hsz := he.size; have tkD : True := trivial)
      | (clear tkD; by_cases hk6 : k < 6; (have tkE : True := trivial); rotate_left 1; (have tkF : True := trivial))
      | ((with_reducible apply c_cond_dec); exact rfl; intro _; rotate_left 1; intro _; (all_goals (try (exfalso; (focus (omega; done))))))
      | (have _ := tkE; refine W_call (L_any _) rfl ?_; rintro lv wl ⟨bl, rfl, hlv, hbl⟩ hel; have hsz := hel.size; have hltl := Bx.lt hlv; (have hplv : Prs wl (.slice (some ⟨bl, 0, none⟩) 2 2) LB := Prs.built (xs := LB) hlv rfl (by decide)))
      | (have _ := tkE; refine W_call (K_any _) rfl ?_; rintro kv wk ⟨bk, rfl, hkv, hbk⟩ hek; have hsz := hek.size; have hltk := Bx.lt hkv; (have hpkv : Prs wk (.slice (some ⟨bk, 0, none⟩) 2 2) KB := Prs.built (xs := KB) hkv rfl (by decide)))
      | (have _ := tkE; refine W_callv (wMost _ k hk6 _ hplv) rfl (fun wq he => ?_); have hsz := he.size)
      | (have _ := tkE; refine W_callv (wLeast _ k hk6 _ hpkv) rfl (fun wq he => ?_); have hsz := he.size)
      | (have _ := tkE; refine W_indexInt (i := k) (xs := [0, 5, 9, 9, 14, 18]) (v := .slice (some ⟨b24, 0, none⟩) 6 6) rfl (IntsK.ex (show Ex wA _ from (by repeat (first | exact Ex.refl _ | assumption | (refine Ex.of_grown ?_ (by assumption) (by intro k hk; cases hk; omega)) | (refine Ex.trans ?_ (by assumption))))) him) rfl (by simpa using hk6) ?_; intro pq hpq)
      | (have _ := tkE; refine W_indexInt (i := k) (xs := [0, 0, 4, 4, 8, 15]) (v := .slice (some ⟨b25, 0, none⟩) 6 6) rfl (IntsK.ex (show Ex wA _ from (by repeat (first | exact Ex.refl _ | assumption | (refine Ex.of_grown ?_ (by assumption) (by intro k hk; cases hk; omega)) | (refine Ex.trans ?_ (by assumption))))) hil) rfl (by simpa using hk6) ?_; intro pq hpq)
      | (clear tkF; refine W_call (L_any _) rfl ?_; rintro lv wl ⟨bl, rfl, hlv, hbl⟩ hel; have hsz := hel.size; have hltl := Bx.lt hlv; (have hplv : Prs wl (.slice (some ⟨bl, 0, none⟩) 2 2) LB := Prs.built (xs := LB) hlv rfl (by decide)); have tkG : True := trivial)
      | (clear tkG; refine W_call (wCover _ _ hplv) rfl ?_; rintro vq wc ⟨cov, rfl, hcov⟩ hec; have hsz := hec.size; have hcov1 := hcov.one; have tkH : True := trivial)
      | (clear tkH; refine W_call (K_any _) rfl ?_; rintro kv wk ⟨bk, rfl, hkv, hbk⟩ hek; have hsz := hek.size; have hltk := Bx.lt hkv; (have hpkv : Prs wk (.slice (some ⟨bk, 0, none⟩) 2 2) KB := Prs.built (xs := KB) hkv rfl (by decide)); have tkI : True := trivial)
      | (clear tkI; refine W_call (wPack _ _ hpkv) rfl ?_; rintro vq wp ⟨pac, rfl, hpac⟩ hep; have hsz := hep.size; have hpac1 := hpac.one; have tkJ : True := trivial)
      | (clear tkJ; refine W_call (Q_any _) rfl ?_; rintro vq wQ ⟨pv, rv, us, vs, rfl, hQ1, hQ2, hQ3, hQ4⟩ heQ; have hsz := heQ.size; (have hn1 := hQ1.one); (have hn2 := hQ3.one); have tkK : True := trivial)
      | (clear tkK; refine W_callv (wRow pv rv us vs _ hQ1 hQ2 hQ3 hQ4) rfl (fun wq he => ?_); have hsz := he.size; have tkL : True := trivial)
      | (clear tkL; refine W_call (P_any _) rfl ?_; rintro vq wQ ⟨pv, rv, us, vs, rfl, hP1, hP2, hP3, hP4⟩ heQ; have hsz := heQ.size; (have hn1 := hP1.one); (have hn2 := hP3.one); have tkM : True := trivial)
      | (clear tkM; refine W_callv (wDrop pv rv us vs _ hP1 hP2 hP3 hP4) rfl (fun wq he => ?_); have hsz := he.size; have tkN : True := trivial)
      | (clear tkN; refine W_call (P_any _) rfl ?_; rintro vq wQ ⟨pv, rv, us, vs, rfl, hP1, hP2, hP3, hP4⟩ heQ; have hsz := heQ.size; (have hn1 := hP1.one); (have hn2 := hP3.one); have tkO : True := trivial)
      | (clear tkO; refine W_callv (wDelay pv rv us vs _ hP1 hP2 hP3 hP4) rfl (fun wD heD => ?_); have hsz := heD.size; have tkP : True := trivial)
      | (have _ := tkP; refine W_callv (show Ret Try.prog 34 [cov, .slice (some ⟨bS, 0, none⟩) 2 2] _ (fun r _ => r = .bool true) from numbers_any cov _ [1, 1] [1, 1] _ (IntsK.ex (by repeat (first | exact Ex.refl _ | assumption | (refine Ex.of_grown ?_ (by assumption) (by intro k hk; cases hk; omega)) | (refine Ex.trans ?_ (by assumption)))) hcov) (IntsK.ex (by repeat (first | exact Ex.refl _ | assumption | (refine Ex.of_grown ?_ (by assumption) (by intro k hk; cases hk; omega)) | (refine Ex.trans ?_ (by assumption)))) hiS)) rfl (fun wq he => ?_); have hsz := he.size)
      | (have _ := tkP; refine W_callv (show Ret Try.prog 34 [pac, .slice (some ⟨bS, 0, none⟩) 2 2] _ (fun r _ => r = .bool true) from numbers_any pac _ [0, 1] [0, 1] _ (IntsK.ex (by repeat (first | exact Ex.refl _ | assumption | (refine Ex.of_grown ?_ (by assumption) (by intro k hk; cases hk; omega)) | (refine Ex.trans ?_ (by assumption)))) hpac) (IntsK.ex (by repeat (first | exact Ex.refl _ | assumption | (refine Ex.of_grown ?_ (by assumption) (by intro k hk; cases hk; omega)) | (refine Ex.trans ?_ (by assumption)))) hiS)) rfl (fun wq he => ?_); have hsz := he.size)
      | (have _ := tkP; refine W_bsG (N := 2) (n := 1) (qs := [(0, .int .i64 1), (1, .int .i64 1)]) (c := [.int .i64 1, .int .i64 1]) rfl rfl (by kernel_rfl) ?_; intro bS wq hbS he hnq; have hltq := Bx.lt hbS; have hsz := he.size; (have hiS := IntsK.built (xs := [1, 1]) hbS rfl (by simp)); have hiS1 := hiS.one)
      | (have _ := tkP; refine W_bsG (N := 2) (n := 1) (qs := [(0, .int .i64 0), (1, .int .i64 1)]) (c := [.int .i64 0, .int .i64 1]) rfl rfl (by kernel_rfl) ?_; intro bS wq hbS he hnq; have hltq := Bx.lt hbS; have hsz := he.size; (have hiS := IntsK.built (xs := [0, 1]) hbS rfl (by simp)); have hiS1 := hiS.one)
      | (have _ := tkP; refine W_call (P_any _) rfl ?_; rintro vq wQ ⟨pv, rv, us, vs, rfl, hP1, hP2, hP3, hP4⟩ heQ; have hsz := heQ.size; (have hn1 := hP1.one); (have hn2 := hP3.one); clear tkP; have tkR : True := trivial)
      | (have _ := tkR; refine W_bsG (N := 4) (n := 1) (qs := [(0, .int .i64 5), (1, .int .i64 4), (2, .int .i64 0), (3, .int .i64 5)]) (c := [.int .i64 5, .int .i64 4, .int .i64 0, .int .i64 5]) rfl rfl (by kernel_rfl) ?_; intro bd wq hb4 he hnq; have hltq := Bx.lt hb4; have hsz := he.size; (have hiSbd := IntsK.built (xs := [5, 4, 0, 5]) hb4 rfl (by simp)); have hiS1 := hiSbd.one; clear tkR; have tkS : True := trivial)
      | (have _ := tkS; clear tkS; (with_reducible apply W_bs1); ((conv => lhs; whnf) <;> exact rfl); (first | exact rfl | assumption | exact IntsK.one (by assumption) | exact Prs.one (by assumption) | exact OwnP.one (by assumption) | exact Own.one (by assumption) | exact Row.one (by assumption) | exact OwnR.one (by assumption)); decide; decide; exact rfl; exact rfl; ((simp only [lay, lset, List.replicate_succ, List.replicate_zero]) <;> exact rfl); intro b139 wq hbq he hnq; have hltq := Bx.lt hbq; have hsz := he.size; (have hx139 : Bx wq b139 [.slice (some ⟨bd, 0, none⟩) 4 4] 30 := hbq); have tkT : True := trivial)
      | (have _ := tkT; refine W_bsG (N := 4) (n := 1) (qs := [(0, .int .i64 0), (1, .int .i64 4), (2, .int .i64 0), (3, .int .i64 4)]) (c := [.int .i64 0, .int .i64 4, .int .i64 0, .int .i64 4]) rfl rfl (by kernel_rfl) ?_; intro bc wq hb4 he hnq; have hltq := Bx.lt hb4; have hsz := he.size; (have hiSbc := IntsK.built (xs := [0, 4, 0, 4]) hb4 rfl (by simp)); have hiS1 := hiSbc.one; clear tkT; have tkU : True := trivial)
      | (have _ := tkU; clear tkU; (with_reducible apply W_bs1); ((conv => lhs; whnf) <;> exact rfl); (first | exact rfl | assumption | exact IntsK.one (by assumption) | exact Prs.one (by assumption) | exact OwnP.one (by assumption) | exact Own.one (by assumption) | exact Row.one (by assumption) | exact OwnR.one (by assumption)); decide; decide; exact rfl; exact rfl; ((simp only [lay, lset, List.replicate_succ, List.replicate_zero]) <;> exact rfl); intro b141 wq hbq he hnq; have hltq := Bx.lt hbq; have hsz := he.size; (have hx141 : Bx wq b141 [.slice (some ⟨bc, 0, none⟩) 4 4] 30 := hbq); have tkV : True := trivial)
      | (clear tkV; refine W_call (wLacks pv rv us vs _ (Vals.ex (by repeat (first | exact Ex.refl _ | assumption | (refine Ex.of_grown ?_ (by assumption) (by intro k hk; cases hk; omega)) | (refine Ex.trans ?_ (by assumption)))) hP1) (BLs.ex (by repeat (first | exact Ex.refl _ | assumption | (refine Ex.of_grown ?_ (by assumption) (by intro k hk; cases hk; omega)) | (refine Ex.trans ?_ (by assumption)))) hP2) (Vals.ex (by repeat (first | exact Ex.refl _ | assumption | (refine Ex.of_grown ?_ (by assumption) (by intro k hk; cases hk; omega)) | (refine Ex.trans ?_ (by assumption)))) hP3) (BLs.ex (by repeat (first | exact Ex.refl _ | assumption | (refine Ex.of_grown ?_ (by assumption) (by intro k hk; cases hk; omega)) | (refine Ex.trans ?_ (by assumption)))) hP4) _ _ _ _ (Vals.built (E := 30) (Bx.ex (by repeat (first | exact Ex.refl _ | assumption | (refine Ex.of_grown ?_ (by assumption) (by intro k hk; cases hk; omega)) | (refine Ex.trans ?_ (by assumption)))) hx139) rfl (by simp)) (Vals.built (E := 30) (Bx.ex (by repeat (first | exact Ex.refl _ | assumption | (refine Ex.of_grown ?_ (by assumption) (by intro k hk; cases hk; omega)) | (refine Ex.trans ?_ (by assumption)))) hx141) rfl (by simp)) (IntsK.ex (by repeat (first | exact Ex.refl _ | assumption | (refine Ex.of_grown ?_ (by assumption) (by intro k hk; cases hk; omega)) | (refine Ex.trans ?_ (by assumption)))) hiSbd) (IntsK.ex (by repeat (first | exact Ex.refl _ | assumption | (refine Ex.of_grown ?_ (by assumption) (by intro k hk; cases hk; omega)) | (refine Ex.trans ?_ (by assumption)))) hiSbc)) rfl ?_; rintro vq wL ⟨lk, dl, rfl, hlk, hdl⟩ heL; have hsz := heL.size; (have hlk1 := hlk.one); (have hdl1 := hdl.one); have tkW : True := trivial)
      | (clear tkW; refine W_call (P_any _) rfl ?_; rintro vq wQ ⟨pv, rv, us, vs, rfl, hP1, hP2, hP3, hP4⟩ heQ; have hsz := heQ.size; (have hn1 := hP1.one); (have hn2 := hP3.one); have tkX : True := trivial)
      | (clear tkX; refine W_call (wWorst pv rv us vs _ hP1 hP2 hP3 hP4) rfl ?_; rintro vq wW ⟨dv, cv, du, cu, rfl, hw1, hw2, hw3, hw4⟩ heW; have hsz := heW.size; (have hn3 := hw1.one); (have hn4 := hw2.one); have tkY : True := trivial)
      | (have _ := tkY; (with_reducible apply W_alloc); exact rfl; intro b21 w21 hb21 he21 hn21; have hlt21 := Bx.lt hb21; have hsz := he21.size; clear tkY; have tkZ : True := trivial)
      | (clear tkZ; (with_reducible apply W_storeA); exact rfl; exact hb21; exact rfl; exact rfl; exact rfl; (repeat' (first | exact trivial | exact rfl | assumption | constructor)); intro w22 hb21 hg21; have hsz := hg21.size; (have he22 : Ex wW w22 := Ex.of_grown he21 hg21 (by intro k hk; cases hk; omega)); have tk3 : True := trivial)
      | (have _ := tk3; refine c_mixX (id := 18) [] [1] 9 #[false, true, false, false, false, false, false, false, false, false] [false, false, false, false, false, false, false, false, false, false] [false, true, false, false, false, false, false, false, false, false] (by kernel_rfl) (by kernel_rfl) (by kernel_rfl) (by dsimp only [sel] <;> exact rfl) (by dsimp only [sel] <;> exact rfl) ?_)
      | (have _ := tk3; (with_reducible apply WM_op); exact rfl; exact rfl; (intro wq he; exact r_loadA rfl (Bx.cells (Bx.ex he hb21)) rfl))
      | (have _ := tk3; refine W_call (P_any _) rfl ?_; rintro vq wQ ⟨pv, rv, us, vs, rfl, hP1, hP2, hP3, hP4⟩ heQ; have hsz := heQ.size; (have hn1 := hP1.one); (have hn2 := hP3.one))
      | (have _ := tk3; refine W_call (wLacks pv rv us vs _ (Vals.ex (by first | exact Ex.refl _ | assumption) hP1) (BLs.ex (by first | exact Ex.refl _ | assumption) hP2) (Vals.ex (by first | exact Ex.refl _ | assumption) hP3) (BLs.ex (by first | exact Ex.refl _ | assumption) hP4) dv cv du cu (Vals.ex (show Ex wW _ from (by repeat (first | exact Ex.refl _ | assumption | (refine Ex.of_grown ?_ (by assumption) (by intro k hk; cases hk; omega)) | (refine Ex.trans ?_ (by assumption))))) hw1) (Vals.ex (show Ex wW _ from (by repeat (first | exact Ex.refl _ | assumption | (refine Ex.of_grown ?_ (by assumption) (by intro k hk; cases hk; omega)) | (refine Ex.trans ?_ (by assumption))))) hw2) (IntsK.ex (show Ex wW _ from (by repeat (first | exact Ex.refl _ | assumption | (refine Ex.of_grown ?_ (by assumption) (by intro k hk; cases hk; omega)) | (refine Ex.trans ?_ (by assumption))))) hw3) (IntsK.ex (show Ex wW _ from (by repeat (first | exact Ex.refl _ | assumption | (refine Ex.of_grown ?_ (by assumption) (by intro k hk; cases hk; omega)) | (refine Ex.trans ?_ (by assumption))))) hw4)) rfl ?_; rintro vq wM ⟨lk2, dl2, rfl, hlk2, hdl2⟩ heM; have hsz := heM.size; (have hlk21 := hlk2.one); (have hdl21 := hdl2.one); clear tk3; have tk4 : True := trivial)
      | (have _ := tk4; refine W_bsG (N := 4) (n := 1) (qs := [(0, .int .i64 5), (1, .int .i64 5), (2, .int .i64 5), (3, .int .i64 6)]) (c := [.int .i64 5, .int .i64 5, .int .i64 5, .int .i64 6]) rfl rfl (by kernel_rfl) ?_; intro be wq hb4 he hnq; have hltq := Bx.lt hb4; have hsz := he.size; (have hiSbe := IntsK.built (xs := [5, 5, 5, 6]) hb4 rfl (by simp)); have hiS1 := hiSbe.one)
      | (have _ := tk4; refine W_bsG (N := 4) (n := 1) (qs := [(0, .int .i64 3), (1, .int .i64 (-1)), (2, .int .i64 (-1)), (3, .int .i64 (-1))]) (c := [.int .i64 3, .int .i64 (-1), .int .i64 (-1), .int .i64 (-1)]) rfl rfl (by kernel_rfl) ?_; intro bf wq hb4 he hnq; have hltq := Bx.lt hb4; have hsz := he.size; (have hiSbf := IntsK.built (xs := [3, -1, -1, -1]) hb4 rfl (by simp)); have hiS1 := hiSbf.one)
      | (have _ := tk4; refine W_callv (show Ret Try.prog 34 [lk, .slice (some ⟨be, 0, none⟩) 4 4] _ (fun r _ => r = .bool true) from numbers_any lk _ [5, 5, 5, 6] [5, 5, 5, 6] _ (IntsK.ex (show Ex wL _ from (by repeat (first | exact Ex.refl _ | assumption | (refine Ex.of_grown ?_ (by assumption) (by intro k hk; cases hk; omega)) | (refine Ex.trans ?_ (by assumption))))) hlk) (IntsK.ex (by first | exact Ex.refl _ | assumption) hiSbe)) rfl (fun wq he => ?_); have hsz := he.size)
      | (have _ := tk4; refine W_callv (show Ret Try.prog 34 [dl, .slice (some ⟨bf, 0, none⟩) 4 4] _ (fun r _ => r = .bool true) from numbers_any dl _ [3, -1, -1, -1] [3, -1, -1, -1] _ (IntsK.ex (show Ex wL _ from (by repeat (first | exact Ex.refl _ | assumption | (refine Ex.of_grown ?_ (by assumption) (by intro k hk; cases hk; omega)) | (refine Ex.trans ?_ (by assumption))))) hdl) (IntsK.ex (by first | exact Ex.refl _ | assumption) hiSbf)) rfl (fun wq he => ?_); have hsz := he.size)
      | (have _ := tk4; (with_reducible apply W_op); exact rfl; exact rfl; exact r_lenInts rfl (IntsK.ex (show Ex wM _ from (by repeat (first | exact Ex.refl _ | assumption | (refine Ex.of_grown ?_ (by assumption) (by intro k hk; cases hk; omega)) | (refine Ex.trans ?_ (by assumption))))) hlk2))
      | (have _ := tk4; refine W_indexInt (i := 3) (xs := [5, 5, 5, 6]) (v := lk2) rfl (IntsK.ex (show Ex wM _ from (by repeat (first | exact Ex.refl _ | assumption | (refine Ex.of_grown ?_ (by assumption) (by intro k hk; cases hk; omega)) | (refine Ex.trans ?_ (by assumption))))) hlk2) rfl (by decide) ?_; intro pq hpq)
      | ((first | ((with_reducible apply W_op); exact rfl; exact rfl) | ((with_reducible apply WQ_op); exact rfl; exact rfl; intro wq he) | ((with_reducible apply WM_op); exact rfl; exact rfl; intro wq he) | ((with_reducible apply WB_op); exact rfl; exact rfl; intro wq)); (first | ((with_reducible apply r_move); ((conv => lhs; whnf) <;> exact rfl)) | ((with_reducible apply r_assign); ((conv => lhs; whnf) <;> exact rfl)) | ((with_reducible apply r_load); exact rfl; exact rfl; (first | assumption | exact (Bx.cell (by repeat (first | assumption | ((with_reducible apply Bx.grownS); assumption; (first | omega | exact Bx.ne (by assumption) (by omega))) | ((with_reducible apply Bx.below); assumption; omega) | ((with_reducible apply Bx.ex); assumption))) _).trans rfl | exact Ex.cell (by assumption) (by assumption))) | ((with_reducible apply r_lss); exact rfl; exact rfl) | ((with_reducible apply r_eql); exact rfl; exact rfl) | ((with_reducible apply r_neq); exact rfl; exact rfl) | ((with_reducible apply r_add); exact rfl; exact rfl; omega) | ((with_reducible apply r_pick_true); exact rfl; ((conv => lhs; whnf) <;> exact rfl)) | ((with_reducible apply r_pick_false); exact rfl; ((conv => lhs; whnf) <;> exact rfl)) | ((with_reducible apply r_notb); exact rfl) | ((with_reducible apply r_extract); exact rfl; exact rfl) | ((with_reducible apply r_build2); ((conv => lhs; whnf) <;> exact rfl); ((conv => lhs; whnf) <;> exact rfl); (first | exact rfl | assumption | exact IntsK.one (by assumption) | exact Prs.one (by assumption) | exact OwnP.one (by assumption) | exact Own.one (by assumption) | exact Row.one (by assumption) | exact OwnR.one (by assumption)); (first | exact rfl | assumption | exact IntsK.one (by assumption) | exact Prs.one (by assumption) | exact OwnP.one (by assumption) | exact Own.one (by assumption) | exact Row.one (by assumption) | exact OwnR.one (by assumption)); exact rfl; exact rfl; ((simp only [lay, lset, List.replicate_succ, List.replicate_zero]) <;> exact rfl))))
      | ((with_reducible (show Exit.then _ _ _ _ _)); refine n_roundG (k + 1) (hJ _ _ _ _ ⟨_, rfl, by omega, by omega, (show Ex wA _ from (by repeat (first | exact Ex.refl _ | assumption | (refine Ex.of_grown ?_ (by assumption) (by intro k hk; cases hk; omega)) | (refine Ex.trans ?_ (by assumption))))), (by repeat (first | assumption | exact Ex.refl _ | (refine Ex.trans ?_ (by assumption)) | (refine Ex.of_grown ?_ (by assumption) (by intro k hk; cases hk; omega))))⟩ ⟨rfl, rfl, rfl, trivial⟩ rfl) (by omega))
      | (refine XT_one (t := 0) (s := false) (listed := #[false, true, false, false, false, false, false, false, false, false]) (listed' := #[true, true, false, false, false, false, false, false, false, false]) (by kernel_rfl) rfl (by kernel_rfl) (by kernel_rfl) ?_)
      | (refine XT_one (t := 2) (s := true) (listed := #[true, true, false, false, false, false, false, false, false, false]) (listed' := #[true, true, true, false, false, false, false, false, false, false]) (by kernel_rfl) rfl (by kernel_rfl) (by kernel_rfl) ?_)
      | (refine XT_pure (t := 3) (listed := #[true, true, true, false, false, false, false, false, false, false]) (listed' := #[true, true, true, true, false, false, false, false, false, false]) (by kernel_rfl) rfl rfl rfl (by kernel_rfl) (by intro wq; ((with_reducible apply r_move); ((conv => lhs; whnf) <;> exact rfl))) ?_)
      | (refine XT_pure (t := 4) (listed := #[true, true, true, true, false, false, false, false, false, false]) (listed' := #[true, true, true, true, true, false, false, false, false, false]) (by kernel_rfl) rfl rfl rfl (by kernel_rfl) (by intro wq; ((with_reducible apply r_extract); exact rfl; exact rfl)) ?_)
      | (refine XT_pure (t := 5) (listed := #[true, true, true, true, true, false, false, false, false, false]) (listed' := #[true, true, true, true, true, true, false, false, false, false]) (by kernel_rfl) rfl rfl rfl (by kernel_rfl) (by intro wq; ((with_reducible apply r_extract); exact rfl; exact rfl)) ?_)
      | (refine XT_pure (t := 6) (listed := #[true, true, true, true, true, true, false, false, false, false]) (listed' := #[true, true, true, true, true, true, true, false, false, false]) (by kernel_rfl) rfl rfl rfl (by kernel_rfl) (by intro wq; ((with_reducible apply r_extract); exact rfl; exact rfl)) ?_)
      | (refine XT_pure (t := 7) (listed := #[true, true, true, true, true, true, true, false, false, false]) (listed' := #[true, true, true, true, true, true, true, true, false, false]) (by kernel_rfl) rfl rfl rfl (by kernel_rfl) (by intro wq; ((with_reducible apply r_assign); ((conv => lhs; whnf) <;> exact rfl))) ?_)
      | (refine XT_pure (t := 8) (listed := #[true, true, true, true, true, true, true, true, false, false]) (listed' := #[true, true, true, true, true, true, true, true, true, false]) (by kernel_rfl) rfl rfl rfl (by kernel_rfl) (by intro wq; ((with_reducible apply r_assign); ((conv => lhs; whnf) <;> exact rfl))) ?_)
      | (refine XT_pure (t := 9) (listed := #[true, true, true, true, true, true, true, true, true, false]) (listed' := #[true, true, true, true, true, true, true, true, true, true]) (by kernel_rfl) rfl rfl rfl (by kernel_rfl) (by intro wq; ((with_reducible apply r_assign); ((conv => lhs; whnf) <;> exact rfl))) ?_)
      | (with_reducible apply XB_nil)
      | ((with_reducible apply XM_nil); intro wq he; have hsz := he.size)
      | ((with_reducible apply XT_nil); kernel_rfl)
      | (with_reducible apply x_sink)
      | ((with_reducible apply x_keep); (focus ((repeat (first | assumption | exact Ex.refl _ | (refine Ex.trans ?_ (by assumption)) | (refine Ex.of_grown ?_ (by assumption) (by intro k hk; cases hk; omega)))); done)); intro wq he; have hsz := he.size)
      | (with_reducible apply W_nil)
      | ((with_reducible apply W_pass); exact rfl; exact rfl; exact rfl; exact rfl; exact rfl)
      | ((with_reducible apply W_take); exact rfl; exact rfl; exact rfl)
      | (with_reducible apply c_seq)
      | ((with_reducible apply c_region); kernel_rfl)
      | (with_reducible apply n_nq)
      | (with_reducible apply c_block)
      | (with_reducible apply c_skip)
      | (with_reducible apply c_ret)
      | (with_reducible apply c_exit)
      | (with_reducible apply n_then)
      | (with_reducible apply n_block)
      | (with_reducible apply e_then)
      | (with_reducible apply e_block)
      | ((with_reducible apply p_ret1); exact rfl; exact rfl; ((conv => lhs; whnf) <;> exact rfl); refine ⟨_, rfl, ?_, (by repeat (first | assumption | exact Ex.refl _ | (refine Ex.trans ?_ (by assumption)) | (refine Ex.of_grown ?_ (by assumption) (by intro k hk; cases hk; omega))))⟩))
  all_goals first
    | rfl
    | (exfalso; rename_i hh; exact hh rfl)
    | trace_state
end Go.Proofs.Ytlphfobpheefkaa
