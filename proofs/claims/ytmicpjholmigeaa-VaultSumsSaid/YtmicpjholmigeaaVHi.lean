/-
  (heavy) What this text proves: the law VaultSums returns true. Conditions: the values read as lists.
-/
import Derived.Test.YtmicpjholmigeaaVHe
import Derived.Test.YtmicpjholmigeaaVJx
import Derived.Test.YtmicpjholmigeaaVJg
import Derived.Test.YtmicpjholmigeaaFam
set_option linter.unusedVariables false
set_option linter.unusedSimpArgs false
namespace Go.Pv
open Go.RowKit
/-- Two slices of ints of the call's own, each in a block of its own. -/
def TwoI (E : TypeId) (base : Nat) (w : World) (a b : Value) (xs ys : List Int) : Prop := OwnV E base w a (xs.map (Value.int .i64)) ∧ OwnV E base w b (ys.map (Value.int .i64)) ∧ ∀ k, a.ownBlock = some k → b.ownBlock ≠ some k
theorem Own.toV {E : TypeId} {base : Nat} {w : World} {v : Value} {xs : List Int} (h : Own E base w v xs) : OwnV E base w v (xs.map (Value.int .i64)) := by
  unfold Own at h
  unfold OwnV
  simpa using h
theorem Own.fromV {E : TypeId} {base : Nat} {w : World} {v : Value} {xs : List Int} (h : OwnV E base w v (xs.map (Value.int .i64))) : Own E base w v xs := by
  unfold OwnV at h
  unfold Own
  simpa using h
theorem TwoI.a {E : TypeId} {base : Nat} {w : World} {a b : Value} {xs ys : List Int} (h : TwoI E base w a b xs ys) : Ints w a xs := Own.ints (Own.fromV h.1)
theorem TwoI.b {E : TypeId} {base : Nat} {w : World} {a b : Value} {xs ys : List Int} (h : TwoI E base w a b xs ys) : Ints w b ys := Own.ints (Own.fromV h.2.1)
theorem TwoI.ex {E : TypeId} {base : Nat} {w w' : World} {a b : Value} {xs ys : List Int} (e : Ex w w') (h : TwoI E base w a b xs ys) : TwoI E base w' a b xs ys := ⟨h.1.ex e, h.2.1.ex e, h.2.2⟩
theorem TwoI.new {E : TypeId} {base : Nat} {wa wb : World} {a b : Value} {xs ys : List Int} (ha : Own E base wa a xs) (e : Ex wa wb) (hb : Own E wa.heap.size wb b ys) (hbs : base ≤ wa.heap.size) : TwoI E base wb a b xs ys := by
  refine ⟨(Own.ex e ha).toV, (Own.toV (Own.mono hb hbs)), fun k h1 h2 => ?_⟩
  have := (Own.block ha k h1).2
  have := (Own.block hb k h2).1
  omega
theorem TwoI.updA {E : TypeId} {base : Nat} {w w' : World} {a a' b : Value} {xs ys us : List Int} (h : TwoI E base w a b xs ys) (hg : w.grownBy w' a.ownBlock) (hown : OwnV E base w' a' (us.map (Value.int .i64))) (hbl : a'.ownBlock = a.ownBlock ∨ a'.ownBlock = some w.heap.size) : TwoI E base w' a' b us ys := by
  refine ⟨hown, OwnV.keptB h.2.1 hg ?_, fun k hk hb => ?_⟩
  · cases e : b.ownBlock with
    | none => exact .inl rfl
    | some k => exact .inr fun e2 => h.2.2 k e2.symm e
  · rcases hbl with hbl | hbl
    · exact h.2.2 k (by rw [← hbl]; exact hk) hb
    · have := (OwnV.lt h.2.1 k hb).2
      rw [hbl] at hk; cases hk; omega
theorem TwoI.swap {E : TypeId} {base : Nat} {w : World} {a b : Value} {xs ys : List Int} (h : TwoI E base w a b xs ys) : TwoI E base w b a ys xs := ⟨h.2.1, h.1, fun k h1 h2 => h.2.2 k h2 h1⟩
/-- A list with zeros behind it. -/
def padL (c : List Int) (k : Nat) : List Int := c ++ List.replicate k 0
theorem padL_len (c : List Int) (k : Nat) : (padL c k).length = c.length + k := by simp [padL]
theorem padL_next (c : List Int) (k : Nat) : (padL c (k + 1)).map (Value.int .i64) = (padL c k).map (Value.int .i64) ++ [.int .i64 0] := by
  unfold padL; rw [List.replicate_succ']; simp
theorem padL_nb {c : List Int} (h : nbL c) (k : Nat) : nbL (padL c k) := fun i => by
  unfold padL
  simp only [List.getD, List.getElem?_append]
  split
  · exact h i
  · exact rep_nb k _
theorem sum_shL {A B : List Int} (h : A.length = B.length) (ks : List Int) : addS (shL A ks) (shL B ks) = shL (plsL A B) ks := by
  unfold addS shL
  induction ks with
  | nil => rfl
  | cons k r ih =>
    simp only [List.map_cons, List.zipWith_cons_cons, ih]
    congr 1
    unfold sumS
    simp only
    congr 1
    refine Cg.eq ((pls_cg _ _).trans ((Cg.add (atP_cg _ _) (atP_cg _ _)).trans ((plsL_ev k h).symm.trans (atP_cg _ _).symm))) (md_bd _) (md_bd _)
theorem plsL_nb (A B : List Int) : nbL (plsL A B) := fun i => by
  have := inl_bd (zip_bd (f := pls) (fun a b => md_bd _) A B) i
  unfold nb; unfold plsL; omega
theorem pls_step {A B : List Int} (h : A.length = B.length) {k : Nat} (hk : k < A.length) : (plsL A B).take (k + 1) = (plsL A B).take k ++ [(A.getD k 0 + B.getD k 0) % 251] := by
  have hl := plsL_len h
  rw [List.take_succ_eq_append_getElem (by omega)]
  have e : (plsL A B)[k]'(by omega) = (plsL A B).getD k 0 := by simp [show k < (plsL A B).length by omega]
  rw [e]
  have e2 : (plsL A B).getD k 0 = pls (A.getD k 0) (B.getD k 0) := zw_get hk (by omega)
  rw [e2]; rfl
end Go.Pv
namespace Go.Proofs.Ytmicpjholmigeaa
open Go.Pv Go.RowKit Go.Sort
set_option maxHeartbeats 8000000
set_option maxRecDepth 20000
theorem lawSums_any (v v2 vb : Value) (xs ys bs : List Int) (w : World) (h : IntsK .u8 w v xs) (hb : ∀ j, 0 ≤ xs.getD j 0 ∧ xs.getD j 0 ≤ 255) (h2 : IntsK .u8 w v2 ys) (hb2 : ∀ j, 0 ≤ ys.getD j 0 ∧ ys.getD j 0 ≤ 255) (hv : IntsK .u8 w vb bs) (hbb : ∀ j, 0 ≤ bs.getD j 0 ∧ bs.getD j 0 ≤ 255) (hbz : bs.length ≤ 1000000000000000000) : Ret Try.prog 13 [v, v2, vb] w fun r _ => r = .bool true := by
  have hv1 := h.one
  have hv2 := h2.one
  have hv3 := hv.one
  have hM1 := fun w2 (e : Ex w w2) => lmade_any v xs w2 (IntsK.ex e h) hb
  have hM2 := fun w2 (e : Ex w w2) => lmade_any v2 ys w2 (IntsK.ex e h2) hb2
  have hl1 := lockL_len xs
  have hn1 := lockL_nb xs
  obtain ⟨c1, hc1⟩ : ∃ c, c = lockL xs := ⟨_, rfl⟩
  rw [← hc1] at hl1 hn1
  simp only [← hc1] at hM1
  have hl2 := lockL_len ys
  have hn2 := lockL_nb ys
  obtain ⟨c2, hc2⟩ : ∃ c, c = lockL ys := ⟨_, rfl⟩
  rw [← hc2] at hl2 hn2
  simp only [← hc2] at hM2
  clear hc1 hc2
  have hfin : ∀ A B : List Int, A.length = B.length → 1 ≤ A.length ∧ A.length ≤ 8 → nbL A → nbL B → ∃ ks, (∀ (L : List Int) cv w2, L.length = A.length → nbL L → Ex w w2 → Ints w2 cv L → Ret Try.prog 41 [cv, vb, .int .i64 (A.length : Int)] w2 fun r w' => OwnP 61 w2.heap.size w' r (shL L ks)) ∧
      (∀ sa sb w2, Prs w2 sa (shL A ks) → Prs w2 sb (shL B ks) → Ret Try.prog 38 [sa, sb] w2 fun r w' => ∃ u, r = .tuple #[u, .int .i64 0] ∧ Prs w' u (shL (plsL A B) ks)) ∧
      (∀ sv w2, Prs w2 sv (shL (plsL A B) ks) → Ret Try.prog 27 [.int .i64 (A.length : Int), sv] w2 fun r w' => ∃ u, r = .tuple #[u, .int .i64 0] ∧ Ints w' u (plsL A B)) := by
    intro A B hab hA nA nB
    have hok := someK_ok (least := A.length) hbb (by omega)
    refine ⟨someK bs A.length, ?_, ?_, ?_⟩
    · intro L cv w2 hL nL e hcv
      exact (lsome_any cv vb L bs A.length w2 hcv nL (by omega) (IntsK.ex e hv) hbb (by omega) hbz).monoU fun r _ _ hr => hr.1
    · intro sa sb w2 e1 e2
      have := Add_any sa sb _ _ w2 e1 e2
      have e0 : addErr (shL A (someK bs A.length)) (shL B (someK bs A.length)) = 0 := by
        unfold addErr
        rw [(shL_ok A hok.1).chk (by decide), (shL_ok B hok.1).chk (by decide), if_neg (by decide), if_neg (by decide), if_pos (by rw [kS_shL, kS_shL])]
      rw [e0, if_pos rfl, sum_shL hab] at this
      exact this.monoU fun r _ _ ⟨u, e, h⟩ => ⟨u, e, h.prs⟩
    · intro sv w2 e
      have hpl : (plsL A B).length = A.length := plsL_len hab
      have := Restore_any (A.length : Int) sv _ w2 e
      have hwh := shL_whole hok.1 (plsL_nb A B) (by omega) (by omega)
      have hrs := shL_rest hok.1 (plsL_nb A B) (by omega) (by omega)
      rw [hpl] at hwh hrs
      rwa [hwh, if_pos rfl, Int.toNat_natCast, hrs] at this
  have tkL : True := trivial
  refine ret_of_c Try.func13 rfl Try.ntmps13 (Nat.le_of_ble_eq_true rfl) (by dsimp only [ini, Nat.reduceAdd] <;> exact rfl) ?_
  repeat' (first
      | ((with_reducible apply W_split); exact rfl; exact rfl; intro hsy; rotate_left 1; intro hsx; (all_goals (try (exfalso; (focus (first | exact hsx rfl | exact hsy rfl | omega; done))))))
      | ((with_reducible apply W_op); exact rfl; exact rfl; exact r_lenInts rfl (TwoI.a htw))
      | ((with_reducible apply W_op); exact rfl; exact rfl; exact r_lenInts rfl (TwoI.b htw))
      | (have _ := tkA2; refine W_appendF (w0 := w) (base := w.heap.size) (m := .int .i64 0) (xs := (padL c1 k).map (Value.int .i64)) rfl rfl rfl (OwnV.ex (by repeat (first | exact Ex.refl _ | assumption | (refine Ex.of_grown ?_ (by assumption) (by intro k hk; cases hk; omega)) | (refine Ex.trans ?_ (by assumption)))) htw.1) rfl hbq (by rw [List.length_map, padL_len]; omega) (by repeat (first | assumption | exact Ex.refl _ | (refine Ex.trans ?_ (by assumption)) | (refine Ex.of_grown ?_ (by assumption) (by intro k hk; cases hk; omega)))) (Nat.le_refl _) (by omega) ?_; intro r2 wq hown3 he hkn hgq hbl; have hsz := he.size; (have hbi := TwoI.ex (show Ex wr _ from by assumption) htw); rw [← padL_next] at hown3; have htw2 := TwoI.updA hbi hgq hown3 hbl; have hr21 : r2.oneCell' = true := (Own.fromV hown3).one)
      | (have _ := tkD2; refine W_appendF (w0 := w) (base := w.heap.size) (m := .int .i64 0) (xs := (padL c2 j).map (Value.int .i64)) rfl rfl rfl (OwnV.ex (by repeat (first | exact Ex.refl _ | assumption | (refine Ex.of_grown ?_ (by assumption) (by intro k hk; cases hk; omega)) | (refine Ex.trans ?_ (by assumption)))) htw.2.1) rfl hbq (by rw [List.length_map, padL_len]; omega) (by repeat (first | assumption | exact Ex.refl _ | (refine Ex.trans ?_ (by assumption)) | (refine Ex.of_grown ?_ (by assumption) (by intro k hk; cases hk; omega)))) (Nat.le_refl _) (by omega) ?_; intro r2 wq hown3 he hkn hgq hbl; have hsz := he.size; (have hbi := TwoI.ex (show Ex wr _ from by assumption) htw); rw [← padL_next] at hown3; have htw2 := (TwoI.updA hbi.swap hgq hown3 hbl).swap; have hr21 : r2.oneCell' = true := (Own.fromV hown3).one)
      | (clear tkA; have hpk := padL_len c1 k; have tkA2 : True := trivial)
      | (clear tkD; have hpj := padL_len c2 j; have tkD2 : True := trivial)
      | (clear tkL; have tkB : True := trivial; refine c_loopG (fun (k : Nat) ps wr => ∃ av : Value, ps = [(2, vb), (7, av), (8, b0)] ∧ TwoI 3 w.heap.size wr av b0 (padL c1 k) c2 ∧ (k = 0 ∨ c1.length + k ≤ c2.length) ∧ av.oneCell' = true ∧ Ex w wr) (fun k => c2.length - (c1.length + k)) 0 _ ⟨_, rfl, (by simpa [padL] using htw), .inl rfl, ha1, (by repeat (first | assumption | exact Ex.refl _ | (refine Ex.trans ?_ (by assumption)) | (refine Ex.of_grown ?_ (by assumption) (by intro k hk; cases hk; omega))))⟩ ⟨rfl, rfl, rfl, trivial⟩ (by ((conv => lhs; whnf) <;> exact rfl)) (by ((conv => lhs; whnf) <;> exact rfl)) ?_; rintro J hJ k u ps wr ⟨av, rfl, htw, hk, hav, he⟩; have hsz := he.size; have tkA : True := trivial)
      | (clear tkB; have tkC : True := trivial; refine c_loopG (fun (j : Nat) ps wr => ∃ bv : Value, ps = [(2, vb), (7, av), (8, bv)] ∧ TwoI 3 w.heap.size wr av bv (padL c1 k) (padL c2 j) ∧ (j = 0 ∨ c2.length + j ≤ c1.length + k) ∧ bv.oneCell' = true ∧ Ex w wr) (fun j => c1.length + k - (c2.length + j)) 0 _ ⟨_, rfl, (by simpa [padL] using htw), .inl rfl, hb1, (by repeat (first | assumption | exact Ex.refl _ | (refine Ex.trans ?_ (by assumption)) | (refine Ex.of_grown ?_ (by assumption) (by intro k hk; cases hk; omega))))⟩ ⟨rfl, rfl, rfl, trivial⟩ (by ((conv => lhs; whnf) <;> exact rfl)) (by ((conv => lhs; whnf) <;> exact rfl)) ?_; rintro K2 hK2 j u ps wr ⟨bv, rfl, htw, hj, hbv, he⟩; have hsz := he.size; have tkD : True := trivial)
      | (clear tkC; (have hAl := hpk); (have hBl := hpj); (have hAn := padL_nb hn1 k); (have hBn := padL_nb hn2 j); (obtain ⟨A, hA⟩ : ∃ q, q = padL c1 k := ⟨_, rfl⟩); (obtain ⟨B, hB⟩ : ∃ q, q = padL c2 j := ⟨_, rfl⟩); rw [← hA] at htw hAl hAn; rw [← hB] at htw hBl hBn; (have hab : A.length = B.length := (by omega)); (have hA8 : 1 ≤ A.length ∧ A.length ≤ 8 := (by omega)); (obtain ⟨ks, hSo, hAd, hRs⟩ := hfin A B hab hA8 hAn hBn); (obtain ⟨wS, htS, hwS, hSr⟩ : ∃ wS, TwoI 3 w.heap.size wS av bv A B ∧ Ex w wS ∧ Ex wS wr := ⟨wr, htw, he, Ex.refl wr⟩); have hiA := htS.a; have hiB := htS.b; (have hpl := plsL_len hab); have hszS := hwS.size; (have hpt := fun q => List.length_take_le q (plsL A B)); (have hst := fun q (hq : q < A.length) => pls_step hab hq); have tkE : True := trivial)
      | (refine c_mix (id := 10) [] [0, 1, 2, 3, 4, 5, 6, 7, 8, 9, 10] [11, 12, 13] [false, false, false, false, false, false, false, false, false, false, false, false, false, false] [true, true, true, true, true, true, true, true, true, true, true, false, false, false] [none, none, none, none, none, none, none, none, none, none, none, some false, some true, some true] (by kernel_rfl) (by kernel_rfl) (by kernel_rfl) (by kernel_rfl) (by kernel_rfl) (by kernel_rfl) (by dsimp only [sel] <;> exact rfl) (by dsimp only [sel] <;> exact rfl) (by dsimp only [selT] <;> exact rfl) ?_)
      | (refine WM_indexInt (i := q) (v := av) (xs := A) rfl (IntsK.ex (show Ex wS _ from (by repeat (first | exact Ex.refl _ | assumption | (refine Ex.of_grown ?_ (by assumption) (by intro k hk; cases hk; omega)) | (refine Ex.trans ?_ (by assumption))))) hiA) rfl (by omega) ?_; intro pq hpq)
      | (refine WM_indexInt (i := q) (v := bv) (xs := B) rfl (IntsK.ex (show Ex wS _ from (by repeat (first | exact Ex.refl _ | assumption | (refine Ex.of_grown ?_ (by assumption) (by intro k hk; cases hk; omega)) | (refine Ex.trans ?_ (by assumption))))) hiB) rfl (by omega) ?_; intro pq hpq)
      | ((with_reducible apply WM_op); exact rfl; exact rfl; (intro wq he; exact r_remE rfl rfl (by omega) (by omega)))
      | (refine W_appendO (w0 := wS) (base := wS.heap.size) (m := (A.getD q 0 + B.getD q 0) % 251) (xs := (plsL A B).take q) rfl rfl (Pv.Own.ex (by repeat (first | exact Ex.refl _ | assumption | (refine Ex.of_grown ?_ (by assumption) (by intro k hk; cases hk; omega)) | (refine Ex.trans ?_ (by assumption)))) hown) rfl (by repeat (first | assumption | ((with_reducible apply Bx.grownS); assumption; (first | omega | exact Bx.ne (by assumption) (by omega))) | ((with_reducible apply Bx.below); assumption; omega) | ((with_reducible apply Bx.ex); assumption))) (by have := hpt q; omega) (show Ex wS _ from (by repeat (first | exact Ex.refl _ | assumption | (refine Ex.of_grown ?_ (by assumption) (by intro k hk; cases hk; omega)) | (refine Ex.trans ?_ (by assumption))))) (by omega) (by omega) ?_; intro r2 wq hown3 hr21 he hkn hgq; have hsz := he.size)
      | ((with_reducible (show C _ _ _ _ _ _)); clear tkE; refine c_loopG (fun (q : Nat) ps wr => ∃ ov : Value, ∃ iv : Int, ps = [(2, vb), (7, av), (8, bv), (9, ov), (37, av), (38, .int .i64 A.length), (39, .int .i64 iv)] ∧ iv = q ∧ q ≤ A.length ∧ Pv.Own 3 wS.heap.size wr ov ((plsL A B).take q) ∧ ov.oneCell' = true ∧ Ex wS wr) (fun q => A.length - q) 0 _ ⟨_, _, rfl, rfl, Nat.zero_le _, Pv.Own.nil _ _ _, rfl, hSr⟩ ⟨rfl, rfl, rfl, rfl, rfl, rfl, rfl, trivial⟩ (by ((conv => lhs; whnf) <;> exact rfl)) (by ((conv => lhs; whnf) <;> exact rfl)) ?_; rintro K3 hK3 q u ps wr ⟨ov, iv, rfl, rfl, hq, hown, hov, he⟩; have hsz := he.size; have tkF : True := trivial)
      | (clear tkF; (have hnA := hAn q); (have hnB := hBn q); unfold nb at hnA hnB; have tkH : True := trivial)
      | (clear tkH; (by_cases hqe : q = A.length; rotate_left 1; (focus (exfalso; omega; done))); (have hoS := Pv.Own.ints hown); rw [hqe, ← hpl, List.take_length] at hoS; (have hxw := Ex.trans hwS he); have tkG : True := trivial)
      | ((with_reducible apply W_op); exact rfl; exact rfl; exact r_lenInts rfl (IntsK.ex (show Ex wS _ from (by repeat (first | exact Ex.refl _ | assumption | (refine Ex.of_grown ?_ (by assumption) (by intro k hk; cases hk; omega)) | (refine Ex.trans ?_ (by assumption))))) hiA))
      | ((with_reducible apply W_op); exact rfl; exact rfl; (rw [hab]); exact r_lenInts rfl (IntsK.ex (show Ex wS _ from (by repeat (first | exact Ex.refl _ | assumption | (refine Ex.of_grown ?_ (by assumption) (by intro k hk; cases hk; omega)) | (refine Ex.trans ?_ (by assumption))))) hiB))
      | (have _ := tkG; refine W_call (hSo A _ _ rfl hAn (show Ex w _ from (by repeat (first | exact Ex.refl _ | assumption | (refine Ex.of_grown ?_ (by assumption) (by intro k hk; cases hk; omega)) | (refine Ex.trans ?_ (by assumption))))) (IntsK.ex (show Ex wS _ from (by repeat (first | exact Ex.refl _ | assumption | (refine Ex.of_grown ?_ (by assumption) (by intro k hk; cases hk; omega)) | (refine Ex.trans ?_ (by assumption))))) hiA)) rfl ?_; rintro sa wsa hsa he; have hsz := he.size; have hsa1 := hsa.one; have hsai := hsa.prs)
      | (have _ := tkG; refine W_call (hSo B _ _ hab.symm hBn (show Ex w _ from (by repeat (first | exact Ex.refl _ | assumption | (refine Ex.of_grown ?_ (by assumption) (by intro k hk; cases hk; omega)) | (refine Ex.trans ?_ (by assumption))))) (IntsK.ex (show Ex wS _ from (by repeat (first | exact Ex.refl _ | assumption | (refine Ex.of_grown ?_ (by assumption) (by intro k hk; cases hk; omega)) | (refine Ex.trans ?_ (by assumption))))) hiB)) (by rw [hab]; rfl) ?_; rintro sb wsb hsb he; have hsz := he.size; have hsb1 := hsb.one; have hsbi := hsb.prs)
      | (have _ := tkG; refine W_call (hSo (plsL A B) _ _ hpl (plsL_nb A B) (show Ex w _ from (by repeat (first | exact Ex.refl _ | assumption | (refine Ex.of_grown ?_ (by assumption) (by intro k hk; cases hk; omega)) | (refine Ex.trans ?_ (by assumption))))) (IntsK.ex (by repeat (first | exact Ex.refl _ | assumption | (refine Ex.of_grown ?_ (by assumption) (by intro k hk; cases hk; omega)) | (refine Ex.trans ?_ (by assumption)))) hoS)) rfl ?_; rintro sc wsc hsc he; have hsz := he.size; have hsc1 := hsc.one; have hsci := hsc.prs)
      | ((first | ((with_reducible apply W_op); exact rfl; exact rfl) | ((with_reducible apply WQ_op); exact rfl; exact rfl; intro wq he) | ((with_reducible apply WM_op); exact rfl; exact rfl; intro wq he) | ((with_reducible apply WB_op); exact rfl; exact rfl; intro wq)); (first | ((with_reducible apply r_remE); exact rfl; exact rfl; omega; omega) | ((with_reducible apply r_indexArr); exact rfl; exact rfl; omega) | ((with_reducible apply r_move); ((conv => lhs; whnf) <;> exact rfl)) | ((with_reducible apply r_assign); ((conv => lhs; whnf) <;> exact rfl)) | ((with_reducible apply r_load); exact rfl; exact rfl; (first | assumption | exact (Bx.cell (by repeat (first | assumption | ((with_reducible apply Bx.grownS); assumption; (first | omega | exact Bx.ne (by assumption) (by omega))) | ((with_reducible apply Bx.below); assumption; omega) | ((with_reducible apply Bx.ex); assumption))) _).trans rfl | exact Ex.cell (by assumption) (by assumption))) | ((with_reducible apply r_loadF); exact rfl; (first | assumption | exact (Bx.cell (by repeat (first | assumption | ((with_reducible apply Bx.grownS); assumption; (first | omega | exact Bx.ne (by assumption) (by omega))) | ((with_reducible apply Bx.below); assumption; omega) | ((with_reducible apply Bx.ex); assumption))) _).trans rfl | exact Ex.cell (by assumption) (by assumption))) | ((with_reducible apply r_loadA); exact rfl; (first | assumption | exact Bx.cells (by repeat (first | assumption | ((with_reducible apply Bx.grownS); assumption; (first | omega | exact Bx.ne (by assumption) (by omega))) | ((with_reducible apply Bx.below); assumption; omega) | ((with_reducible apply Bx.ex); assumption))) | exact Cells.ex (by assumption) (by assumption)); exact rfl) | ((with_reducible apply r_lss); exact rfl; exact rfl) | ((with_reducible apply r_eql); exact rfl; exact rfl) | ((with_reducible apply r_add); exact rfl; exact rfl; omega) | ((with_reducible apply r_len); exact rfl) | ((with_reducible apply r_lenStr); exact rfl) | ((with_reducible apply r_lenInts); ((conv => lhs; whnf) <;> exact rfl); (focus ((repeat (first | assumption | ((refine IntsK.exH (by assumption) ?_); (focus ((repeat (first | exact Ex.refl _ | assumption | (refine Ex.of_grown ?_ (by assumption) (by intro k hk; cases hk; omega)) | (refine Ex.trans ?_ (by assumption)))); done))) | ((refine Prs.exH (by assumption) ?_); (focus ((repeat (first | exact Ex.refl _ | assumption | (refine Ex.of_grown ?_ (by assumption) (by intro k hk; cases hk; omega)) | (refine Ex.trans ?_ (by assumption)))); done))) | ((with_reducible apply Bx.grownS); assumption; (first | omega | exact Bx.ne (by assumption) (by omega))) | ((with_reducible apply Bx.below); assumption; omega) | ((with_reducible apply OwnP.grownS); assumption; omega) | ((with_reducible apply Own.grownS); assumption; omega) | ((with_reducible apply Bx.ex); assumption) | ((with_reducible apply IntsK.ex); assumption) | ((with_reducible apply Own.ex); assumption) | ((with_reducible apply Prs.ex); assumption) | ((with_reducible apply OwnP.ex); assumption))); done))) | ((with_reducible apply r_lenPrs); ((conv => lhs; whnf) <;> exact rfl); (focus ((repeat (first | assumption | ((refine IntsK.exH (by assumption) ?_); (focus ((repeat (first | exact Ex.refl _ | assumption | (refine Ex.of_grown ?_ (by assumption) (by intro k hk; cases hk; omega)) | (refine Ex.trans ?_ (by assumption)))); done))) | ((refine Prs.exH (by assumption) ?_); (focus ((repeat (first | exact Ex.refl _ | assumption | (refine Ex.of_grown ?_ (by assumption) (by intro k hk; cases hk; omega)) | (refine Ex.trans ?_ (by assumption)))); done))) | ((with_reducible apply Bx.grownS); assumption; (first | omega | exact Bx.ne (by assumption) (by omega))) | ((with_reducible apply Bx.below); assumption; omega) | ((with_reducible apply OwnP.grownS); assumption; omega) | ((with_reducible apply Own.grownS); assumption; omega) | ((with_reducible apply Bx.ex); assumption) | ((with_reducible apply IntsK.ex); assumption) | ((with_reducible apply Own.ex); assumption) | ((with_reducible apply Prs.ex); assumption) | ((with_reducible apply OwnP.ex); assumption))); done))) | ((with_reducible apply r_pick_true); exact rfl; ((conv => lhs; whnf) <;> exact rfl)) | ((with_reducible apply r_pick_false); exact rfl; ((conv => lhs; whnf) <;> exact rfl)) | ((with_reducible apply r_rem); exact rfl; exact rfl; omega) | ((with_reducible apply r_eqlb); exact rfl; exact rfl) | ((with_reducible apply r_extract); exact rfl; exact rfl) | ((with_reducible apply r_loadSub); exact rfl; (focus ((repeat (first | assumption | ((with_reducible apply Bx.grownS); assumption; (first | omega | exact Bx.ne (by assumption) (by omega))) | ((with_reducible apply Bx.below); assumption; omega) | ((with_reducible apply Bx.ex); assumption))); done)); ((simp only [Nat.add_zero, Nat.zero_add, Nat.reduceAdd, List.drop_zero, List.drop_succ_cons, List.take_succ_cons, List.take_zero]) <;> exact rfl); exact rfl)))
      | (refine W_call (hM1 _ (by repeat (first | assumption | exact Ex.refl _ | (refine Ex.trans ?_ (by assumption)) | (refine Ex.of_grown ?_ (by assumption) (by intro k hk; cases hk; omega))))) rfl ?_; rintro a0 wa hoa he; have hsz := he.size; have ha1 := hoa.one)
      | (refine W_call (hM2 _ (by repeat (first | assumption | exact Ex.refl _ | (refine Ex.trans ?_ (by assumption)) | (refine Ex.of_grown ?_ (by assumption) (by intro k hk; cases hk; omega))))) rfl ?_; rintro b0 wb hob he; have hsz := he.size; have hb1 := hob.one; have htw := TwoI.new hoa he hob (by omega))
      | ((with_reducible (show Exit.then _ _ _ _ _)); refine n_roundG (k + 1) (hJ _ _ _ _ ⟨_, rfl, htw2, (by omega), hr21, (by repeat (first | assumption | exact Ex.refl _ | (refine Ex.trans ?_ (by assumption)) | (refine Ex.of_grown ?_ (by assumption) (by intro k hk; cases hk; omega))))⟩ ⟨rfl, rfl, rfl, trivial⟩ rfl) (by omega))
      | ((with_reducible (show Exit.then _ _ _ _ _)); refine n_roundG (j + 1) (hK2 _ _ _ _ ⟨_, rfl, htw2, (by omega), hr21, (by repeat (first | assumption | exact Ex.refl _ | (refine Ex.trans ?_ (by assumption)) | (refine Ex.of_grown ?_ (by assumption) (by intro k hk; cases hk; omega))))⟩ ⟨rfl, rfl, rfl, trivial⟩ rfl) (by omega))
      | ((with_reducible (show Exit.then _ _ _ _ _)); refine n_roundG (q + 1) (hK3 _ _ _ _ ⟨_, _, rfl, by omega, by omega, (by rw [hst q (by omega)]; exact hown3), hr21, (show Ex wS _ from (by repeat (first | exact Ex.refl _ | assumption | (refine Ex.of_grown ?_ (by assumption) (by intro k hk; cases hk; omega)) | (refine Ex.trans ?_ (by assumption)))))⟩ ⟨rfl, rfl, rfl, rfl, rfl, rfl, rfl, trivial⟩ rfl) (by omega))
      | (refine W_call (hAd _ _ _ (Prs.ex (by repeat (first | exact Ex.refl _ | assumption | (refine Ex.of_grown ?_ (by assumption) (by intro k hk; cases hk; omega)) | (refine Ex.trans ?_ (by assumption)))) hsai) hsbi) rfl ?_; rintro vq wq ⟨ud, rfl, hud⟩ he; have hsz := he.size; have hud1 := hud.one)
      | (refine W_call (hRs _ _ (Prs.ex (by repeat (first | exact Ex.refl _ | assumption | (refine Ex.of_grown ?_ (by assumption) (by intro k hk; cases hk; omega)) | (refine Ex.trans ?_ (by assumption)))) hud)) rfl ?_; rintro vq wq ⟨ur, rfl, hur⟩ he; have hsz := he.size; have hur1 := hur.one)
      | (refine W_callv (shas_same _ _ (shL (plsL A B) ks) _ (Prs.ex (by repeat (first | exact Ex.refl _ | assumption | (refine Ex.of_grown ?_ (by assumption) (by intro k hk; cases hk; omega)) | (refine Ex.trans ?_ (by assumption)))) hud) hsci) rfl (fun wq he => ?_); have hsz := he.size)
      | (refine W_callv (nums_same _ _ (plsL A B) _ (IntsK.ex (by repeat (first | exact Ex.refl _ | assumption | (refine Ex.of_grown ?_ (by assumption) (by intro k hk; cases hk; omega)) | (refine Ex.trans ?_ (by assumption)))) hur) (IntsK.ex (by repeat (first | exact Ex.refl _ | assumption | (refine Ex.of_grown ?_ (by assumption) (by intro k hk; cases hk; omega)) | (refine Ex.trans ?_ (by assumption)))) hoS)) rfl (fun wq he => ?_); have hsz := he.size)
      | (refine W_callv (works_any _) rfl (fun wq he => ?_); have hsz := he.size)
      | (with_reducible apply W_nil)
      | ((with_reducible apply WQ_nil); exact rfl; intro wq he; have hsz := he.size)
      | (with_reducible apply WM_nil; intro wq he; have hsz := he.size)
      | (with_reducible apply WB_nil)
      | (with_reducible apply WT_nil)
      | (with_reducible apply WT_cons)
      | (with_reducible apply t_sink)
      | ((with_reducible apply t_keep); (focus ((repeat (first | assumption | exact Ex.refl _ | (refine Ex.trans ?_ (by assumption)) | (refine Ex.of_grown ?_ (by assumption) (by intro k hk; cases hk; omega)))); done)); intro wq he; have hsz := he.size)
      | ((with_reducible apply W_indexInt); ((conv => lhs; whnf) <;> exact rfl); (focus ((repeat (first | assumption | ((refine IntsK.exH (by assumption) ?_); (focus ((repeat (first | exact Ex.refl _ | assumption | (refine Ex.of_grown ?_ (by assumption) (by intro k hk; cases hk; omega)) | (refine Ex.trans ?_ (by assumption)))); done))) | ((refine Prs.exH (by assumption) ?_); (focus ((repeat (first | exact Ex.refl _ | assumption | (refine Ex.of_grown ?_ (by assumption) (by intro k hk; cases hk; omega)) | (refine Ex.trans ?_ (by assumption)))); done))) | ((with_reducible apply Bx.grownS); assumption; (first | omega | exact Bx.ne (by assumption) (by omega))) | ((with_reducible apply Bx.below); assumption; omega) | ((with_reducible apply OwnP.grownS); assumption; omega) | ((with_reducible apply Own.grownS); assumption; omega) | ((with_reducible apply Bx.ex); assumption) | ((with_reducible apply IntsK.ex); assumption) | ((with_reducible apply Own.ex); assumption) | ((with_reducible apply Prs.ex); assumption) | ((with_reducible apply OwnP.ex); assumption))); done)); exact rfl; omega; intro pq hpq)
      | ((with_reducible apply W_indexIntss); ((conv => lhs; whnf) <;> exact rfl); assumption; (focus ((repeat (first | assumption | exact Ex.refl _ | (refine Ex.trans ?_ (by assumption)) | (refine Ex.of_grown ?_ (by assumption) (by intro k hk; cases hk; omega)))); done)); exact rfl; omega; intro pq uq hpq huq)
      | ((with_reducible apply WQ_indexInt); ((conv => lhs; whnf) <;> exact rfl); (focus ((repeat (first | assumption | ((refine IntsK.exH (by assumption) ?_); (focus ((repeat (first | exact Ex.refl _ | assumption | (refine Ex.of_grown ?_ (by assumption) (by intro k hk; cases hk; omega)) | (refine Ex.trans ?_ (by assumption)))); done))) | ((refine Prs.exH (by assumption) ?_); (focus ((repeat (first | exact Ex.refl _ | assumption | (refine Ex.of_grown ?_ (by assumption) (by intro k hk; cases hk; omega)) | (refine Ex.trans ?_ (by assumption)))); done))) | ((with_reducible apply Bx.grownS); assumption; (first | omega | exact Bx.ne (by assumption) (by omega))) | ((with_reducible apply Bx.below); assumption; omega) | ((with_reducible apply OwnP.grownS); assumption; omega) | ((with_reducible apply Own.grownS); assumption; omega) | ((with_reducible apply Bx.ex); assumption) | ((with_reducible apply IntsK.ex); assumption) | ((with_reducible apply Own.ex); assumption) | ((with_reducible apply Prs.ex); assumption) | ((with_reducible apply OwnP.ex); assumption))); done)); exact rfl; omega; intro pq hpq)
      | ((with_reducible apply WQ_indexIntss); ((conv => lhs; whnf) <;> exact rfl); assumption; (focus ((repeat (first | assumption | exact Ex.refl _ | (refine Ex.trans ?_ (by assumption)) | (refine Ex.of_grown ?_ (by assumption) (by intro k hk; cases hk; omega)))); done)); exact rfl; omega; intro pq uq hpq huq)
      | ((with_reducible apply WM_indexInt); ((conv => lhs; whnf) <;> exact rfl); (focus ((repeat (first | assumption | ((refine IntsK.exH (by assumption) ?_); (focus ((repeat (first | exact Ex.refl _ | assumption | (refine Ex.of_grown ?_ (by assumption) (by intro k hk; cases hk; omega)) | (refine Ex.trans ?_ (by assumption)))); done))) | ((refine Prs.exH (by assumption) ?_); (focus ((repeat (first | exact Ex.refl _ | assumption | (refine Ex.of_grown ?_ (by assumption) (by intro k hk; cases hk; omega)) | (refine Ex.trans ?_ (by assumption)))); done))) | ((with_reducible apply Bx.grownS); assumption; (first | omega | exact Bx.ne (by assumption) (by omega))) | ((with_reducible apply Bx.below); assumption; omega) | ((with_reducible apply OwnP.grownS); assumption; omega) | ((with_reducible apply Own.grownS); assumption; omega) | ((with_reducible apply Bx.ex); assumption) | ((with_reducible apply IntsK.ex); assumption) | ((with_reducible apply Own.ex); assumption) | ((with_reducible apply Prs.ex); assumption) | ((with_reducible apply OwnP.ex); assumption))); done)); exact rfl; omega; intro pq hpq)
      | ((with_reducible apply WM_indexIntss); ((conv => lhs; whnf) <;> exact rfl); assumption; (focus ((repeat (first | assumption | exact Ex.refl _ | (refine Ex.trans ?_ (by assumption)) | (refine Ex.of_grown ?_ (by assumption) (by intro k hk; cases hk; omega)))); done)); exact rfl; omega; intro pq uq hpq huq)
      | ((with_reducible apply W_indexPr); ((conv => lhs; whnf) <;> exact rfl); (focus ((repeat (first | assumption | ((refine IntsK.exH (by assumption) ?_); (focus ((repeat (first | exact Ex.refl _ | assumption | (refine Ex.of_grown ?_ (by assumption) (by intro k hk; cases hk; omega)) | (refine Ex.trans ?_ (by assumption)))); done))) | ((refine Prs.exH (by assumption) ?_); (focus ((repeat (first | exact Ex.refl _ | assumption | (refine Ex.of_grown ?_ (by assumption) (by intro k hk; cases hk; omega)) | (refine Ex.trans ?_ (by assumption)))); done))) | ((with_reducible apply Bx.grownS); assumption; (first | omega | exact Bx.ne (by assumption) (by omega))) | ((with_reducible apply Bx.below); assumption; omega) | ((with_reducible apply OwnP.grownS); assumption; omega) | ((with_reducible apply Own.grownS); assumption; omega) | ((with_reducible apply Bx.ex); assumption) | ((with_reducible apply IntsK.ex); assumption) | ((with_reducible apply Own.ex); assumption) | ((with_reducible apply Prs.ex); assumption) | ((with_reducible apply OwnP.ex); assumption))); done)); exact rfl; omega; intro pq hpq)
      | ((with_reducible apply WQ_indexPr); ((conv => lhs; whnf) <;> exact rfl); (focus ((repeat (first | assumption | ((refine IntsK.exH (by assumption) ?_); (focus ((repeat (first | exact Ex.refl _ | assumption | (refine Ex.of_grown ?_ (by assumption) (by intro k hk; cases hk; omega)) | (refine Ex.trans ?_ (by assumption)))); done))) | ((refine Prs.exH (by assumption) ?_); (focus ((repeat (first | exact Ex.refl _ | assumption | (refine Ex.of_grown ?_ (by assumption) (by intro k hk; cases hk; omega)) | (refine Ex.trans ?_ (by assumption)))); done))) | ((with_reducible apply Bx.grownS); assumption; (first | omega | exact Bx.ne (by assumption) (by omega))) | ((with_reducible apply Bx.below); assumption; omega) | ((with_reducible apply OwnP.grownS); assumption; omega) | ((with_reducible apply Own.grownS); assumption; omega) | ((with_reducible apply Bx.ex); assumption) | ((with_reducible apply IntsK.ex); assumption) | ((with_reducible apply Own.ex); assumption) | ((with_reducible apply Prs.ex); assumption) | ((with_reducible apply OwnP.ex); assumption))); done)); exact rfl; omega; intro pq hpq)
      | ((with_reducible apply W_bsP); exact rfl; exact rfl; intro bq wq hbq he hnq; have hltq := Bx.lt hbq; have hsz := he.size)
      | ((with_reducible apply W_pass); exact rfl; exact rfl; exact rfl; exact rfl; exact rfl)
      | ((with_reducible apply W_take); exact rfl; exact rfl; exact rfl)
      | ((with_reducible apply W_passU); exact rfl; exact rfl; exact rfl; exact rfl)
      | ((with_reducible apply W_split); exact rfl; exact rfl; intro _; rotate_left 1; intro _)
      | ((with_reducible apply WQ_pass); exact rfl; exact rfl; exact rfl; exact rfl; exact rfl)
      | ((with_reducible apply WQ_take); exact rfl; exact rfl; exact rfl)
      | ((with_reducible apply WQ_passU); exact rfl; exact rfl; exact rfl; exact rfl)
      | ((with_reducible apply WQ_split); exact rfl; exact rfl; intro _; rotate_left 1; intro _)
      | ((with_reducible apply WM_pass); exact rfl; exact rfl; exact rfl; exact rfl; exact rfl)
      | ((with_reducible apply WM_take); exact rfl; exact rfl; exact rfl)
      | ((with_reducible apply WM_passU); exact rfl; exact rfl; exact rfl; exact rfl)
      | ((with_reducible apply WM_split); exact rfl; exact rfl; intro _; rotate_left 1; intro _)
      | ((with_reducible apply c_quiet); kernel_rfl)
      | ((with_reducible apply W_bs1); ((conv => lhs; whnf) <;> exact rfl); (first | exact rfl | assumption | exact IntsK.one (by assumption) | exact Prs.one (by assumption) | exact OwnP.one (by assumption) | exact Own.one (by assumption)); decide; decide; exact rfl; exact rfl; ((simp only [lay, lset, List.replicate_succ, List.replicate_zero]) <;> exact rfl); intro bq wq hbq he hnq; have hltq := Bx.lt hbq; have hsz := he.size)
      | (with_reducible apply c_seq)
      | ((with_reducible apply c_region); kernel_rfl)
      | (with_reducible apply n_nq)
      | (with_reducible apply c_block)
      | (with_reducible apply c_skip)
      | (with_reducible apply c_ret)
      | (with_reducible apply c_exit)
      | ((with_reducible apply c_cond_true); exact rfl)
      | ((with_reducible apply c_cond_false); exact rfl)
      | ((with_reducible apply c_cond_dec); exact rfl; intro _; rotate_left 1; intro _)
      | ((with_reducible apply c_cond_bool); exact rfl; intro _; rotate_left 1; intro _)
      | (with_reducible apply n_then)
      | (with_reducible apply n_block)
      | (with_reducible apply e_then)
      | (with_reducible apply e_block)
      | (with_reducible apply r_then)
      | (with_reducible apply r_block)
      | ((with_reducible apply e_block'); decide)
      | ((with_reducible apply p_ret1); exact rfl; exact rfl; ((conv => lhs; whnf) <;> exact rfl); refine ⟨_, rfl, ?_, (by repeat (first | assumption | exact Ex.refl _ | (refine Ex.trans ?_ (by assumption)) | (refine Ex.of_grown ?_ (by assumption) (by intro k hk; cases hk; omega))))⟩)
      | ((with_reducible apply m_ret1); (focus ((repeat (first | assumption | exact Al.nil _ _ | ((with_reducible apply Al.grownS); assumption; (focus ((repeat (first | assumption | ((with_reducible apply Bx.grownS); assumption; (first | omega | exact Bx.ne (by assumption) (by omega))) | ((with_reducible apply Bx.below); assumption; omega) | ((with_reducible apply Bx.ex); assumption))); done))) | (refine Al.ex (by assumption) ?_))); done)); exact rfl; ((conv => lhs; whnf) <;> exact rfl); refine ⟨_, rfl, ?_, (shut_grown _ _ (by repeat (first | assumption | exact Al.nil _ _ | ((with_reducible apply Al.grownS); assumption; (focus ((repeat (first | assumption | ((with_reducible apply Bx.grownS); assumption; (first | omega | exact Bx.ne (by assumption) (by omega))) | ((with_reducible apply Bx.below); assumption; omega) | ((with_reducible apply Bx.ex); assumption))); done))) | (refine Al.ex (by assumption) ?_))) (by repeat (first | assumption | exact Ex.refl _ | (refine Ex.trans ?_ (by assumption)) | (refine Ex.of_grown ?_ (by assumption) (by intro k hk; cases hk; omega)))) (Nat.le_refl _))⟩)
      | ((with_reducible apply p_retct); exact rfl; exact rfl; exact inferInstance; exact inferInstance; exact rfl; (focus ((repeat (first | assumption | ((with_reducible apply Bx.grownS); assumption; (first | omega | exact Bx.ne (by assumption) (by omega))) | ((with_reducible apply Bx.below); assumption; omega) | ((with_reducible apply Bx.ex); assumption))); done)); exact rfl; exact rfl; refine ⟨_, rfl, ?_, (by repeat (first | assumption | exact Ex.refl _ | (refine Ex.trans ?_ (by assumption)) | (refine Ex.of_grown ?_ (by assumption) (by intro k hk; cases hk; omega))))⟩)
      | ((exfalso; omega)))
  all_goals first | rfl | trace_state
end Go.Proofs.Ytmicpjholmigeaa
