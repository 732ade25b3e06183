/-
  (heavy) (rows) What this text proves: the error of a course is as the plain function says. Conditions: the values read as lists.
-/
import Derived.Test.YtlphfobpheefkaaVBb
import Derived.Test.YtlphfobpheefkaaVAi
set_option linter.unusedVariables false
set_option linter.unusedSimpArgs false
namespace Go.Pv
open Go.RowKit Go.Sort
section
variable {P : Program} {w : World} {ol rest : List Oper} {l : St} {R : Act → Prop} {pos : String} {af : Array Edge} {ty : TypeId}
theorem WM_indexVals {d : Nat} {x ix : Operand} {T e : TypeId} {v : Value} {i : Nat} {k : IntKind} {z : Value} {b : Nat} {xs : List Value} [h : Und P T (.slice e)] [hs : Sz P e z 1 b] (hx : ev l x = v) (hv : Vals w v xs) (hi : ev l ix = .int k (i : Int)) (hlt : i < xs.length)
    (K : ∀ p, w.cell? p = some (xs.getD i undef) → WM P w ol R rest (upd l d (.pointer (some p)))) : WM P w ol R (⟨some d, .indexAddr T x ix, ty, pos, af, none⟩ :: rest) l := by
  obtain ⟨p, hp⟩ : ∃ p, w.cell? p = some (xs.getD i undef) ∧ ∀ w', Ex w w' → Runs P ⟨some d, .indexAddr T x ix, ty, pos, af, none⟩ l w' (.pointer (some p)) := by
    unfold Vals Sl at hv
    obtain ⟨_, a, cap, rfl, _, _, h4⟩ := hv
    obtain ⟨p, u, rfl, h5, rfl⟩ := h4 i hlt
    refine ⟨p.add (i * 1), by rw [Nat.mul_one, h5]; simp [hlt], fun w' _ => r_indexAddr (e := e) hx hi hlt⟩
  exact WM_op rfl rfl hp.2 (K p hp.1)
end
/-- All lists of a course. -/
def allA (nd : Nat) (Dm Cp : Nat → List Int) (j : Nat) : List Int := if j < nd then Dm j else Cp (j - nd)
/-- All numbers of the first lists are amounts. -/
def amtsTo (A : Nat → List Int) (k : Nat) : Prop := ∀ j, j < k → amtTo (A j) (A j).length
theorem amtsTo_next {A : Nat → List Int} {k : Nat} (h : amtsTo A k) (h2 : amtTo (A k) (A k).length) : amtsTo A (k + 1) := fun j hj => by
  rcases Nat.lt_succ_iff_lt_or_eq.1 hj with h1 | rfl
  · exact h j h1
  · exact h2
open Classical in
/-- The error of a course with so many lists. -/
noncomputable def crsErr (pls rs : List (List (Int × Int))) (nd nc : Nat) (Dm Cp : Nat → List Int) : Int :=
  if ¬ (nd = pls.length ∧ nc = rs.length) then 6 else if ¬ lenTo (allA nd Dm Cp) (Dm 0).length (nd + nc) then 6 else if 400 < (Dm 0).length then 5 else if ¬ amtsTo (allA nd Dm Cp) (nd + nc) then 3 else if PosP pls rs Dm Cp then 0 else 21
section
variable {pls rs : List (List (Int × Int))} {nd nc : Nat} {Dm Cp : Nat → List Int}
theorem crs_shape (h : ¬ (nd = pls.length ∧ nc = rs.length)) : crsErr pls rs nd nc Dm Cp = 6 := by unfold crsErr; rw [if_pos h]
theorem crs_len (h : nd = pls.length ∧ nc = rs.length) (h2 : ¬ lenTo (allA nd Dm Cp) (Dm 0).length (nd + nc)) : crsErr pls rs nd nc Dm Cp = 6 := by unfold crsErr; rw [if_neg (fun a => a h), if_pos h2]
theorem crs_many (h : nd = pls.length ∧ nc = rs.length) (h2 : lenTo (allA nd Dm Cp) (Dm 0).length (nd + nc)) (h3 : 400 < (Dm 0).length) : crsErr pls rs nd nc Dm Cp = 5 := by unfold crsErr; rw [if_neg (fun a => a h), if_neg (fun a => a h2), if_pos h3]
theorem crs_rng (h : nd = pls.length ∧ nc = rs.length) (h2 : lenTo (allA nd Dm Cp) (Dm 0).length (nd + nc)) (h3 : ¬ 400 < (Dm 0).length) (h4 : ¬ amtsTo (allA nd Dm Cp) (nd + nc)) : crsErr pls rs nd nc Dm Cp = 3 := by unfold crsErr; rw [if_neg (fun a => a h), if_neg (fun a => a h2), if_neg h3, if_pos h4]
theorem crs_pos (h : nd = pls.length ∧ nc = rs.length) (h2 : lenTo (allA nd Dm Cp) (Dm 0).length (nd + nc)) (h3 : ¬ 400 < (Dm 0).length) (h4 : amtsTo (allA nd Dm Cp) (nd + nc)) : crsErr pls rs nd nc Dm Cp = if posL pls rs Dm Cp then 0 else 21 := by
  unfold crsErr posL; rw [if_neg (fun a => a h), if_neg (fun a => a h2), if_neg h3, if_neg (fun a => a h4)]; by_cases a : PosP pls rs Dm Cp <;> simp [a]
theorem all_len (h2 : lenTo (allA nd Dm Cp) (Dm 0).length (nd + nc)) : (∀ j, j < nd → (Dm j).length = (Dm 0).length) ∧ ∀ j, j < nc → (Cp j).length = (Dm 0).length := by
  refine ⟨fun j hj => ?_, fun j hj => ?_⟩
  · have := h2 j (by omega); unfold allA at this; rwa [if_pos hj] at this
  · have := h2 (nd + j) (by omega); unfold allA at this; rwa [if_neg (by omega), show nd + j - nd = j by omega] at this
theorem all_amt (h4 : amtsTo (allA nd Dm Cp) (nd + nc)) : (∀ j, j < nd → amtTo (Dm j) (Dm j).length) ∧ ∀ j, j < nc → amtTo (Cp j) (Cp j).length := by
  refine ⟨fun j hj => ?_, fun j hj => ?_⟩
  · have := h4 j (by omega); unfold allA at this; rwa [if_pos hj] at this
  · have := h4 (nd + j) (by omega); unfold allA at this; rwa [if_neg (by omega), show nd + j - nd = j by omega] at this
/-- What is known of a course without an error. -/
theorem crs_inv (h : crsErr pls rs nd nc Dm Cp = 0) : nd = pls.length ∧ nc = rs.length ∧ (Dm 0).length ≤ 400 ∧ (∀ j, j < nd → (Dm j).length = (Dm 0).length) ∧ (∀ j, j < nc → (Cp j).length = (Dm 0).length) ∧ (∀ j, j < nd → amtTo (Dm j) (Dm j).length) ∧ (∀ j, j < nc → amtTo (Cp j) (Cp j).length) ∧ PosP pls rs Dm Cp := by
  by_cases a1 : nd = pls.length ∧ nc = rs.length
  · by_cases a2 : lenTo (allA nd Dm Cp) (Dm 0).length (nd + nc)
    · by_cases a3 : 400 < (Dm 0).length
      · rw [crs_many a1 a2 a3] at h; omega
      · by_cases a4 : amtsTo (allA nd Dm Cp) (nd + nc)
        · rw [crs_pos a1 a2 a3 a4] at h
          by_cases a5 : PosP pls rs Dm Cp
          · exact ⟨a1.1, a1.2, by omega, (all_len a2).1, (all_len a2).2, (all_amt a4).1, (all_amt a4).2, a5⟩
          · rw [pos_no a5] at h; simp at h
        · rw [crs_rng a1 a2 a3 a4] at h; omega
    · rw [crs_len a1 a2] at h; omega
  · rw [crs_shape a1] at h; omega
end
theorem app_at {ds cs : List Value} {w : World} {Dm Cp : Nat → List Int} (hD : ∀ j, j < ds.length → Ints w (ds.getD j undef) (Dm j)) (hC : ∀ j, j < cs.length → Ints w (cs.getD j undef) (Cp j)) : ∀ j, j < (ds ++ cs).length → Ints w ((ds ++ cs).getD j undef) (allA ds.length Dm Cp j) := by
  intro j hj
  unfold allA
  by_cases e : j < ds.length
  · rw [if_pos e]
    have e2 : (ds ++ cs).getD j undef = ds.getD j undef := by simp only [List.getD]; rw [List.getElem?_append_left e]
    rw [e2]; exact hD j e
  · rw [if_neg e]
    have e2 : (ds ++ cs).getD j undef = cs.getD (j - ds.length) undef := by simp only [List.getD]; rw [List.getElem?_append_right (by omega)]
    rw [e2]; exact hC _ (by simp at hj; omega)
theorem ones_of {ds : List Value} {w : World} {Dm : Nat → List Int} (hD : ∀ j, j < ds.length → Ints w (ds.getD j undef) (Dm j)) : ∀ q ∈ ds, q.oneCell' = true := fun q hq => by
  obtain ⟨i, hi, rfl⟩ := List.getElem_of_mem hq
  have := (hD i hi).one
  rwa [show ds.getD i undef = ds[i] by simp [hi]] at this
end Go.Pv
namespace Go.Proofs.Ytlphfobpheefkaa
open Go.Pv Go.RowKit Go.Sort
set_option maxHeartbeats 8000000
set_option maxRecDepth 20000
theorem checkCourse_any (pv rv dv cv : Value) (us vs ds cs : List Value) (pls rs : List (List (Int × Int))) (Dm Cp : Nat → List Int) (w : World) (h : Vals w pv us) (hx : BLs w us pls) (h2 : Vals w rv vs) (hx2 : BLs w vs rs) (hpe : pErr pls rs = 0) (hd : Vals w dv ds) (hc : Vals w cv cs)
    (hD : ∀ j, j < ds.length → Ints w (ds.getD j undef) (Dm j)) (hC : ∀ j, j < cs.length → Ints w (cs.getD j undef) (Cp j)) : Ret Try.prog 51 [.agg #[pv, rv], .agg #[dv, cv]] w fun r _ => r = .int .i64 (crsErr pls rs ds.length cs.length Dm Cp) := by
  have hp1 := h.one
  have hr1 := h2.one
  have hd1 := hd.one
  have hc1 := hc.one
  have hul := hx.1
  have hvl := hx2.1
  obtain ⟨hl1, hl2, hb1, hb2⟩ := pErr_inv hpe
  by_cases hsh : ds.length = pls.length ∧ cs.length = rs.length
  · obtain ⟨n, hn⟩ : ∃ n, (Dm 0).length = n := ⟨_, rfl⟩
    have hD0 := hD 0 (by omega)
    have hD01 := hD0.one
    have hA := app_at hD hC
    have hAo := ones_of hA
    have hal : (ds ++ cs).length = ds.length + cs.length := by simp
    have tk2 : True := trivial
    refine ret_of_c Try.func51 rfl Try.ntmps51 (Nat.le_of_ble_eq_true rfl) (by dsimp only [ini, Nat.reduceAdd] <;> exact rfl) ?_
    repeat' (first
        | (clear tk2; (with_reducible apply W_box); exact rfl; exact rfl; intro b2 wq hbq he hnq; have hltq := Bx.lt hbq; have hsz := he.size; have hx2' : Bx wq b2 [pv, rv] 55 := hbq; have tk3 : True := trivial)
        | (clear tk3; (with_reducible apply W_box); exact rfl; exact rfl; intro b3 wq hbq he hnq; have hltq := Bx.lt hbq; have hsz := he.size; have hx3 : Bx wq b3 [dv, cv] 59 := hbq; have tk4 : True := trivial)
        | ((with_reducible apply W_op); exact rfl; exact rfl; first | exact r_lenVals rfl (Vals.ex (show Ex w _ from (by repeat (first | exact Ex.refl _ | assumption | (refine Ex.of_grown ?_ (by assumption) (by intro k hk; cases hk; omega)) | (refine Ex.trans ?_ (by assumption))))) h) | exact r_lenVals rfl (Vals.ex (show Ex w _ from (by repeat (first | exact Ex.refl _ | assumption | (refine Ex.of_grown ?_ (by assumption) (by intro k hk; cases hk; omega)) | (refine Ex.trans ?_ (by assumption))))) hd) | exact r_lenVals rfl (Vals.ex (show Ex w _ from (by repeat (first | exact Ex.refl _ | assumption | (refine Ex.of_grown ?_ (by assumption) (by intro k hk; cases hk; omega)) | (refine Ex.trans ?_ (by assumption))))) h2) | exact r_lenVals rfl (Vals.ex (show Ex w _ from (by repeat (first | exact Ex.refl _ | assumption | (refine Ex.of_grown ?_ (by assumption) (by intro k hk; cases hk; omega)) | (refine Ex.trans ?_ (by assumption))))) hc))
        | ((with_reducible apply W_split); exact rfl; exact rfl; intro _; rotate_left 1; intro hsx; (all_goals (try (exfalso; (focus (first | exact hsx rfl | omega; done))))))
        | ((with_reducible apply c_cond_dec); exact rfl; intro _; rotate_left 1; intro _; (all_goals (try (exfalso; (focus (omega; done))))))
        | (clear tk4; refine c_cutG (x := .region 3 _ _) (n := 54) (ds := []) (fun ps2 wr2 => ∃ (lv : Value) (b6 : Nat), ps2 = [(2, .pointer (some ⟨b2, 0, none⟩)), (3, .pointer (some ⟨b3, 0, none⟩)), (5, lv), (6, .pointer (some ⟨b6, 0, none⟩))] ∧ Vals wr2 lv (ds ++ cs) ∧ Bx wr2 b6 [.int .i64 (n : Int)] 3 ∧ Bx wr2 b2 [pv, rv] 55 ∧ Bx wr2 b3 [dv, cv] 59 ∧ Ex w wr2) (fun J0 hJ0 => ?_) (fun u2 ps2 wc hI2 => ?_); rotate_left 1; (obtain ⟨lv, b6, rfl, hlv, hx6, hx2', hx3, hwc⟩ := hI2); (have hsz := hwc.size); (have hlv1 := hlv.one); have tkA : True := trivial; rotate_left 1; have tkS : True := trivial)
        | (have _ := tkS; refine c_mixX (id := 3) [] [0, 1, 2, 3, 6, 7, 8, 9, 10] 5 #[true, true, true, true, false, false, true, true, true, true, true, false, false, false] [false, false, false, false, false, false, false, false, false, false, false, false, false, false] [true, true, true, true, false, false, true, true, true, true, true, false, false, false] (by kernel_rfl) (by kernel_rfl) (by kernel_rfl) (by dsimp only [sel] <;> exact rfl) (by dsimp only [sel] <;> exact rfl) ?_)
        | (have _ := tkS; refine WM_indexVals (i := 0) (v := dv) (xs := ds) rfl (Vals.ex (show Ex w _ from (by repeat (first | exact Ex.refl _ | assumption | (refine Ex.of_grown ?_ (by assumption) (by intro k hk; cases hk; omega)) | (refine Ex.trans ?_ (by assumption))))) hd) rfl (by omega) ?_; intro pq hpq)
        | (have _ := tkS; (with_reducible apply WM_op); exact rfl; exact rfl; (intro wq he; exact r_load rfl rfl (Ex.cell he hpq)))
        | (have _ := tkS; (with_reducible apply WM_op); exact rfl; exact rfl; (intro wq he; exact r_lenInts rfl (IntsK.ex (Ex.trans (show Ex w _ from (by repeat (first | exact Ex.refl _ | assumption | (refine Ex.of_grown ?_ (by assumption) (by intro k hk; cases hk; omega)) | (refine Ex.trans ?_ (by assumption))))) he) hD0)))
        | (have _ := tkS; (with_reducible apply W_bs2); ((conv => lhs; whnf) <;> exact rfl); ((conv => lhs; whnf) <;> exact rfl); (first | exact rfl | assumption | exact IntsK.one (by assumption) | exact Prs.one (by assumption) | exact OwnP.one (by assumption) | exact Own.one (by assumption) | exact Row.one (by assumption) | exact OwnR.one (by assumption)); (first | exact rfl | assumption | exact IntsK.one (by assumption) | exact Prs.one (by assumption) | exact OwnP.one (by assumption) | exact Own.one (by assumption) | exact Row.one (by assumption) | exact OwnR.one (by assumption)); decide; decide; exact rfl; exact rfl; ((simp only [lay, lset, List.replicate_succ, List.replicate_zero]) <;> exact rfl); intro b29 wq hbq he hnq; have hltq := Bx.lt hbq; have hsz := he.size; have hx29 := hbq)
        | (have _ := tkS; (with_reducible apply W_alloc); exact rfl; intro b6 wq hbq he hnq; have hltq := Bx.lt hbq; have hsz := he.size; have hx6 : Bx wq b6 [.int .i64 0] 3 := hbq)
        | (have _ := tkS; refine W_call (concatI_any b29 dv cv ds cs _ (Bx.ex (by repeat (first | assumption | exact Ex.refl _ | (refine Ex.trans ?_ (by assumption)) | (refine Ex.of_grown ?_ (by assumption) (by intro k hk; cases hk; omega)))) hx29) (Vals.ex (show Ex w _ from (by repeat (first | exact Ex.refl _ | assumption | (refine Ex.of_grown ?_ (by assumption) (by intro k hk; cases hk; omega)) | (refine Ex.trans ?_ (by assumption))))) hd) (Vals.ex (show Ex w _ from (by repeat (first | exact Ex.refl _ | assumption | (refine Ex.of_grown ?_ (by assumption) (by intro k hk; cases hk; omega)) | (refine Ex.trans ?_ (by assumption))))) hc) (by omega) (by omega) (by omega) (ones_of hD) (ones_of hC)) rfl ?_; rintro lv wq hlv he; have hsz := he.size; have hlv1 := hlv.one; have hlvt := hlv.lt)
        | (have _ := tkS; refine W_store (b := b6) (o := 0) (v := .int .i64 (n : Int)) rfl (Bx.ex (by repeat (first | assumption | exact Ex.refl _ | (refine Ex.trans ?_ (by assumption)) | (refine Ex.of_grown ?_ (by assumption) (by intro k hk; cases hk; omega)))) hx6) (Nat.zero_lt_succ _) (congrArg (Value.int .i64) (congrArg Nat.cast hn)) rfl ?_; intro wz hx6z hgz; have hx6z : Bx wz b6 [.int .i64 (n : Int)] 3 := hx6z; have hsz := hgz.size; (have hne : lv.ownBlock = none ∨ lv.ownBlock ≠ some b6 := (by cases hq : lv.ownBlock with | none => exact .inl rfl | some g => exact .inr (fun e => by have h1 := hlvt g hq; cases e; omega))); clear tkS; have tkT : True := trivial)
        | (have _ := tkT; refine n_cutG (hJ0 _ _ _ ⟨lv, b6, rfl, (OwnV.keptB (OwnV.ex (by repeat (first | assumption | exact Ex.refl _ | (refine Ex.trans ?_ (by assumption)) | (refine Ex.of_grown ?_ (by assumption) (by intro k hk; cases hk; omega)))) hlv) hgz hne).vals, hx6z, Bx.grown (Bx.ex (by repeat (first | exact Ex.refl _ | assumption | (refine Ex.of_grown ?_ (by assumption) (by intro k hk; cases hk; omega)) | (refine Ex.trans ?_ (by assumption)))) hx2') hgz (by simp; omega), Bx.grown (Bx.ex (by repeat (first | exact Ex.refl _ | assumption | (refine Ex.of_grown ?_ (by assumption) (by intro k hk; cases hk; omega)) | (refine Ex.trans ?_ (by assumption)))) hx3) hgz (by simp; omega), Ex.of_grown (by repeat (first | assumption | exact Ex.refl _ | (refine Ex.trans ?_ (by assumption)) | (refine Ex.of_grown ?_ (by assumption) (by intro k hk; cases hk; omega)))) hgz (by intro k hk; cases hk; omega)⟩ ⟨rfl, rfl, rfl, rfl, trivial⟩ rfl))
        | (clear tkA; refine W_call (conLen_any lv (ds ++ cs) (allA ds.length Dm Cp) n b6 _ hlv (fun j hj => IntsK.ex hwc (hA j hj)) hx6 (by omega)) rfl ?_; rintro vq wq ⟨q, rfl, hq⟩ he; rw [hal] at hq; have hsz := he.size; (have hlv := Vals.ex he hlv); (have hx6 := Bx.ex he hx6); (have hx2' := Bx.ex he hx2'); (have hx3 := Bx.ex he hx3); (have hwq : Ex w wq := hwc.trans he); cases q; (have hle : lenTo (allA ds.length Dm Cp) n (ds.length + cs.length) := Classical.not_not.1 (fun a => by cases hq.2 a)); (have tkB : True := trivial); rotate_left 1; (have hle := hq.1 rfl))
        | (have _ := tkB; (with_reducible apply W_op); exact rfl; exact rfl; exact r_lenVals rfl (Vals.ex (show Ex wq _ from (by repeat (first | exact Ex.refl _ | assumption | (refine Ex.of_grown ?_ (by assumption) (by intro k hk; cases hk; omega)) | (refine Ex.trans ?_ (by assumption))))) hlv))
        | ((with_reducible (show C _ _ _ _ _ _)); clear tkB; refine c_loopG (fun (k : Nat) ps wr => ∃ i : Int, ps = [(2, .pointer (some ⟨b2, 0, none⟩)), (3, .pointer (some ⟨b3, 0, none⟩)), (41, lv), (42, .int .i64 ((ds ++ cs).length : Int)), (43, .int .i64 i)] ∧ i = k ∧ k ≤ (ds ++ cs).length ∧ amtsTo (allA ds.length Dm Cp) k ∧ Ex wq wr ∧ Ex w wr) (fun k => (ds ++ cs).length - k) 0 _ ⟨_, rfl, rfl, Nat.zero_le _, (fun j hj => absurd hj (Nat.not_lt_zero _)), Ex.refl _, hwq⟩ ⟨rfl, rfl, rfl, rfl, rfl, trivial⟩ (by ((conv => lhs; whnf) <;> exact rfl)) (by ((conv => lhs; whnf) <;> exact rfl)) ?_; rintro J hJ k u ps wr ⟨i, rfl, rfl, hk, hall, hew, he⟩; have hsz := he.size; have tkC : True := trivial)
        | (clear tkC; (by_cases hkl : k < (ds ++ cs).length; (have hak := hA k hkl); (have hak1 := hak.one); (have tkD : True := trivial); rotate_left 1; (have hamt : amtsTo (allA ds.length Dm Cp) (ds.length + cs.length) := (by rw [← hal, show (ds ++ cs).length = k by omega]; exact hall)); (have hle2 := all_len (nc := cs.length) (by rw [hn]; exact hle)); (have ham2 := all_amt hamt); (have hCD : CLs w ds Dm := fun j hj => ⟨hD j hj, by have := hle2.1 j hj; omega, fun q hq => by have := ham2.1 j hj q hq; omega⟩); (have hCC : CLs w cs Cp := fun j hj => ⟨hC j hj, by have := hle2.2 j hj; omega, fun q hq => by have := ham2.2 j hj q hq; omega⟩); (have hpo := fun w2 (e : Ex w w2) => possible_any pv rv dv cv us vs ds cs pls rs Dm Cp w2 (Vals.ex e h) (BLs.ex e hx) (Vals.ex e h2) (BLs.ex e hx2) (Vals.ex e hd) (fun j hj => ⟨IntsK.ex e (hCD j hj).1, (hCD j hj).2⟩) (Vals.ex e hc) (fun j hj => ⟨IntsK.ex e (hCC j hj).1, (hCC j hj).2⟩) (by omega) (by omega) (by omega) (by omega) (fun j hj => hb1 j (by omega)) (fun j hj => hb2 j (by omega))); (obtain ⟨qp, hqp⟩ : ∃ qp, posL pls rs Dm Cp = qp := ⟨_, rfl⟩); rw [hqp] at hpo; (have tkE : True := trivial); cases qp))
        | (have _ := tkD; (with_reducible apply c_cond_true); exact rfl)
        | (have _ := tkD; refine W_indexVals (i := k) (v := lv) (xs := ds ++ cs) rfl (Vals.ex (show Ex wq _ from (by repeat (first | exact Ex.refl _ | assumption | (refine Ex.of_grown ?_ (by assumption) (by intro k hk; cases hk; omega)) | (refine Ex.trans ?_ (by assumption))))) hlv) rfl (by omega) ?_; intro pq hpq)
        | (have _ := tkD; refine W_call (conAmt_any ((ds ++ cs).getD k undef) (allA ds.length Dm Cp k) _ (IntsK.ex (show Ex w _ from (by repeat (first | exact Ex.refl _ | assumption | (refine Ex.of_grown ?_ (by assumption) (by intro k hk; cases hk; omega)) | (refine Ex.trans ?_ (by assumption))))) hak)) rfl ?_; rintro vq wz ⟨q, rfl, hqa⟩ he; have hsz := he.size; cases q; (have ham : amtTo (allA ds.length Dm Cp k) (allA ds.length Dm Cp k).length := Classical.not_not.1 (fun a => by cases hqa.2 a)); rotate_left 1; (have ham := hqa.1 rfl))
        | (have _ := tkE; (with_reducible apply W_op); exact rfl; exact rfl; first | exact r_loadA rfl (Bx.cells (Bx.ex (show Ex wq _ from (by repeat (first | exact Ex.refl _ | assumption | (refine Ex.of_grown ?_ (by assumption) (by intro k hk; cases hk; omega)) | (refine Ex.trans ?_ (by assumption))))) hx2')) rfl | exact r_loadA rfl (Bx.cells (Bx.ex (show Ex wq _ from (by repeat (first | exact Ex.refl _ | assumption | (refine Ex.of_grown ?_ (by assumption) (by intro k hk; cases hk; omega)) | (refine Ex.trans ?_ (by assumption))))) hx3)) rfl)
        | (have _ := tkE; refine W_callv (hpo _ (by repeat (first | assumption | exact Ex.refl _ | (refine Ex.trans ?_ (by assumption)) | (refine Ex.of_grown ?_ (by assumption) (by intro k hk; cases hk; omega))))) rfl (fun wq he => ?_); have hsz := he.size)
        | ((first | ((with_reducible apply W_op); exact rfl; exact rfl) | ((with_reducible apply WQ_op); exact rfl; exact rfl; intro wq he) | ((with_reducible apply WM_op); exact rfl; exact rfl; intro wq he) | ((with_reducible apply WB_op); exact rfl; exact rfl; intro wq)); (first | ((with_reducible apply r_move); ((conv => lhs; whnf) <;> exact rfl)) | ((with_reducible apply r_assign); ((conv => lhs; whnf) <;> exact rfl)) | ((with_reducible apply r_fieldAddr); exact rfl) | ((with_reducible apply r_load); exact rfl; exact rfl; (first | assumption | exact (Bx.cell (by repeat (first | assumption | ((with_reducible apply Bx.grownS); assumption; (first | omega | exact Bx.ne (by assumption) (by omega))) | ((with_reducible apply Bx.below); assumption; omega) | ((with_reducible apply Bx.ex); assumption))) _).trans rfl | exact Ex.cell (by assumption) (by assumption))) | ((with_reducible apply r_lss); exact rfl; exact rfl) | ((with_reducible apply r_gtr); exact rfl; exact rfl) | ((with_reducible apply r_neq); exact rfl; exact rfl) | ((with_reducible apply r_add); exact rfl; exact rfl; omega) | ((with_reducible apply r_pick_false); exact rfl; ((conv => lhs; whnf) <;> exact rfl)) | ((with_reducible apply r_notb); exact rfl) | ((with_reducible apply r_mfc); ((conv => lhs; whnf) <;> exact rfl))))
        | (refine XT_two (t := 4) (t' := 11) (s := false) (s' := false) (listed := #[true, true, true, true, false, false, true, true, true, true, true, false, false, false]) (l1 := #[true, true, true, true, true, false, true, true, true, true, true, false, false, false]) (l1' := #[true, true, true, true, false, false, true, true, true, true, true, true, false, false]) (by kernel_rfl) rfl rfl (by kernel_rfl) (by kernel_rfl) (by kernel_rfl) (by kernel_rfl) ?_ ?_)
        | (refine XT_two (t := 5) (t' := 11) (s := false) (s' := false) (listed := #[true, true, true, true, true, false, true, true, true, true, true, false, false, false]) (l1 := #[true, true, true, true, true, true, true, true, true, true, true, false, false, false]) (l1' := #[true, true, true, true, true, false, true, true, true, true, true, true, false, false]) (by kernel_rfl) rfl rfl (by kernel_rfl) (by kernel_rfl) (by kernel_rfl) (by kernel_rfl) ?_ ?_)
        | (refine XT_one (t := 4) (s := false) (listed := #[true, true, true, true, false, false, true, true, true, true, true, true, false, false]) (listed' := #[true, true, true, true, true, false, true, true, true, true, true, true, false, false]) (by kernel_rfl) rfl (by kernel_rfl) (by kernel_rfl) ?_)
        | (refine XT_one (t := 11) (s := false) (listed := #[true, true, true, true, true, true, true, true, true, true, true, false, false, false]) (listed' := #[true, true, true, true, true, true, true, true, true, true, true, true, false, false]) (by kernel_rfl) rfl (by kernel_rfl) (by kernel_rfl) ?_)
        | (refine XT_one (t := 5) (s := false) (listed := #[true, true, true, true, true, false, true, true, true, true, true, true, false, false]) (listed' := #[true, true, true, true, true, true, true, true, true, true, true, true, false, false]) (by kernel_rfl) rfl (by kernel_rfl) (by kernel_rfl) ?_)
        | (refine XT_one (t := 12) (s := false) (listed := #[true, true, true, true, true, true, true, true, true, true, true, true, false, false]) (listed' := #[true, true, true, true, true, true, true, true, true, true, true, true, true, false]) (by kernel_rfl) rfl (by kernel_rfl) (by kernel_rfl) ?_)
        | (refine XT_one (t := 13) (s := true) (listed := #[true, true, true, true, true, true, true, true, true, true, true, true, true, false]) (listed' := #[true, true, true, true, true, true, true, true, true, true, true, true, true, true]) (by kernel_rfl) rfl (by kernel_rfl) (by kernel_rfl) ?_)
        | (with_reducible apply XB_nil)
        | ((with_reducible apply XM_nil); intro wq he; have hsz := he.size)
        | ((with_reducible apply XT_nil); kernel_rfl)
        | (with_reducible apply x_sink)
        | ((with_reducible apply x_keep); (focus ((repeat (first | assumption | exact Ex.refl _ | (refine Ex.trans ?_ (by assumption)) | (refine Ex.of_grown ?_ (by assumption) (by intro k hk; cases hk; omega)))); done)); intro wq he; have hsz := he.size)
        | ((with_reducible (show Exit.then _ _ _ _ _)); refine n_roundG (k + 1) (hJ _ _ _ _ ⟨_, rfl, by omega, by omega, amtsTo_next hall ham, (show Ex wq _ from (by repeat (first | exact Ex.refl _ | assumption | (refine Ex.of_grown ?_ (by assumption) (by intro k hk; cases hk; omega)) | (refine Ex.trans ?_ (by assumption))))), (by repeat (first | assumption | exact Ex.refl _ | (refine Ex.trans ?_ (by assumption)) | (refine Ex.of_grown ?_ (by assumption) (by intro k hk; cases hk; omega))))⟩ ⟨rfl, rfl, rfl, rfl, rfl, trivial⟩ rfl) (by omega))
        | (with_reducible apply W_nil)
        | ((with_reducible apply W_take); exact rfl; exact rfl; exact rfl)
        | (with_reducible apply c_seq)
        | ((with_reducible apply c_region); kernel_rfl)
        | (with_reducible apply n_nq)
        | (with_reducible apply c_block)
        | (with_reducible apply c_skip)
        | (with_reducible apply c_ret)
        | (with_reducible apply c_exit)
        | ((with_reducible apply c_cond_true); exact rfl)
        | ((with_reducible apply c_cond_false); exact rfl)
        | (with_reducible apply n_then)
        | (with_reducible apply n_block)
        | (with_reducible apply e_then)
        | (with_reducible apply e_block)
        | (with_reducible apply r_then)
        | (with_reducible apply r_block)
        | ((with_reducible apply p_ret1); exact rfl; exact rfl; ((conv => lhs; whnf) <;> exact rfl); refine ⟨_, rfl, ?_, (by repeat (first | assumption | exact Ex.refl _ | (refine Ex.trans ?_ (by assumption)) | (refine Ex.of_grown ?_ (by assumption) (by intro k hk; cases hk; omega))))⟩))
    all_goals first
      | (refine congrArg _ (Eq.symm (crs_len hsh (by rw [hn]; exact hle))); done)
      | (refine congrArg _ (Eq.symm ?_); rw [crs_pos hsh (by rw [hn]; exact hle) (by omega) hamt, hqp]; rfl)
      | (refine congrArg _ (Eq.symm (crs_rng hsh (by rw [hn]; exact hle) (by omega) (fun a => ham (a k (by omega))))); done)
      | (refine congrArg _ (Eq.symm (crs_many hsh (by rw [hn]; exact hle) (by omega))); done)
      | trace_state
  · have hse := crs_shape (pls := pls) (rs := rs) (Dm := Dm) (Cp := Cp) hsh
    rw [hse]
    clear hse
    refine ret_of_c Try.func51 rfl Try.ntmps51 (Nat.le_of_ble_eq_true rfl) (by dsimp only [ini, Nat.reduceAdd] <;> exact rfl) ?_
    repeat' (first
        | ((with_reducible apply W_op); exact rfl; exact rfl; first | exact r_lenVals rfl (Vals.ex (show Ex w _ from (by repeat (first | exact Ex.refl _ | assumption | (refine Ex.of_grown ?_ (by assumption) (by intro k hk; cases hk; omega)) | (refine Ex.trans ?_ (by assumption))))) h) | exact r_lenVals rfl (Vals.ex (show Ex w _ from (by repeat (first | exact Ex.refl _ | assumption | (refine Ex.of_grown ?_ (by assumption) (by intro k hk; cases hk; omega)) | (refine Ex.trans ?_ (by assumption))))) hd) | exact r_lenVals rfl (Vals.ex (show Ex w _ from (by repeat (first | exact Ex.refl _ | assumption | (refine Ex.of_grown ?_ (by assumption) (by intro k hk; cases hk; omega)) | (refine Ex.trans ?_ (by assumption))))) h2) | exact r_lenVals rfl (Vals.ex (show Ex w _ from (by repeat (first | exact Ex.refl _ | assumption | (refine Ex.of_grown ?_ (by assumption) (by intro k hk; cases hk; omega)) | (refine Ex.trans ?_ (by assumption))))) hc))
        | ((with_reducible apply W_split); exact rfl; exact rfl; intro _; rotate_left 1; intro hsx; (all_goals (try (exfalso; (focus (first | exact hsx rfl | omega; done))))))
        | ((with_reducible apply c_cond_dec); exact rfl; intro _; rotate_left 1; intro _; (all_goals (try (exfalso; (focus (omega; done))))))
        | ((first | ((with_reducible apply W_op); exact rfl; exact rfl) | ((with_reducible apply WQ_op); exact rfl; exact rfl; intro wq he) | ((with_reducible apply WM_op); exact rfl; exact rfl; intro wq he) | ((with_reducible apply WB_op); exact rfl; exact rfl; intro wq)); (first | ((with_reducible apply r_move); ((conv => lhs; whnf) <;> exact rfl)) | ((with_reducible apply r_assign); ((conv => lhs; whnf) <;> exact rfl)) | ((with_reducible apply r_fieldAddr); exact rfl) | ((with_reducible apply r_load); exact rfl; exact rfl; (first | assumption | exact (Bx.cell (by repeat (first | assumption | ((with_reducible apply Bx.grownS); assumption; (first | omega | exact Bx.ne (by assumption) (by omega))) | ((with_reducible apply Bx.below); assumption; omega) | ((with_reducible apply Bx.ex); assumption))) _).trans rfl | exact Ex.cell (by assumption) (by assumption))) | ((with_reducible apply r_neq); exact rfl; exact rfl) | ((with_reducible apply r_pick_true); exact rfl; ((conv => lhs; whnf) <;> exact rfl)) | ((with_reducible apply r_pick_false); exact rfl; ((conv => lhs; whnf) <;> exact rfl))))
        | (with_reducible apply W_nil)
        | ((with_reducible apply W_box); exact rfl; exact rfl; intro bq wq hbq he hnq; have hltq := Bx.lt hbq; have hsz := he.size)
        | ((with_reducible apply W_pass); exact rfl; exact rfl; exact rfl; exact rfl; exact rfl)
        | ((with_reducible apply W_take); exact rfl; exact rfl; exact rfl)
        | (with_reducible apply c_seq)
        | ((with_reducible apply c_region); kernel_rfl)
        | (with_reducible apply n_nq)
        | (with_reducible apply c_ret)
        | ((with_reducible apply c_cond_true); exact rfl)
        | (with_reducible apply n_then)
        | (with_reducible apply r_then)
        | ((with_reducible apply p_ret1); exact rfl; exact rfl; ((conv => lhs; whnf) <;> exact rfl); refine ⟨_, rfl, ?_, (by repeat (first | assumption | exact Ex.refl _ | (refine Ex.trans ?_ (by assumption)) | (refine Ex.of_grown ?_ (by assumption) (by intro k hk; cases hk; omega))))⟩))
    all_goals first
      | rfl
      | trace_state
end Go.Proofs.Ytlphfobpheefkaa
