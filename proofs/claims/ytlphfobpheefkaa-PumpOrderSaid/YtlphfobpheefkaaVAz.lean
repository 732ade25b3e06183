/-
  (heavy) (rows) What this text proves: the course that is returned is as the plain functions say. Conditions: the values read as lists.
-/
import Derived.Test.YtlphfobpheefkaaVAy
set_option linter.unusedVariables false
set_option linter.unusedSimpArgs false
namespace Go.Pv
open Go.RowKit Go.Sort
theorem block_add (p : Addr) (i : Nat) : (p.add i).block = p.block := by unfold Addr.add; split <;> rfl
/-- A list of numbers outside a block that is written. -/
theorem Ints.keptB {w w' : World} {u : Value} {xs : List Int} {row : Option Nat} (h : Ints w u xs) (hg : w.grownBy w' row) (hne : u.ownBlock = none ∨ u.ownBlock ≠ row) : Ints w' u xs := by
  unfold Ints IntsK Sl at *
  obtain ⟨h0, a, cap, rfl, h2, h3, h4⟩ := h
  refine ⟨h0, a, cap, rfl, h2, h3, fun i hi => ?_⟩
  obtain ⟨p, v, rfl, h6, h7⟩ := h4 i hi
  refine ⟨p, v, rfl, ?_, h7⟩
  have hb : some p.block ≠ row := hne.resolve_left (by simp [Value.ownBlock])
  have e := hg.block (p.add i).block (cell_lt h6) (by rw [block_add]; exact hb)
  unfold World.cell? at h6 ⊢
  rw [e]; exact h6
theorem Vals.keptB {w w' : World} {u : Value} {xs : List Value} {row : Option Nat} (h : Vals w u xs) (hg : w.grownBy w' row) (hne : u.ownBlock = none ∨ u.ownBlock ≠ row) : Vals w' u xs := by
  unfold Vals Sl at *
  obtain ⟨h0, a, cap, rfl, h2, h3, h4⟩ := h
  refine ⟨h0, a, cap, rfl, h2, h3, fun i hi => ?_⟩
  obtain ⟨p, v, rfl, h6, h7⟩ := h4 i hi
  refine ⟨p, v, rfl, ?_, h7⟩
  have hb : some p.block ≠ row := hne.resolve_left (by simp [Value.ownBlock])
  have e := hg.block (p.add i).block (cell_lt h6) (by rw [block_add]; exact hb)
  unfold World.cell? at h6 ⊢
  rw [e]; exact h6
/-- Lists of numbers from block B on, none of them in the block of a slice. -/
def FamI (B : Nat) (w : World) (sv : Value) (us : List Value) (f : Nat → List Int) : Prop := ∀ j, j < us.length → Ints w (us.getD j undef) (f j) ∧ ∀ k, (us.getD j undef).ownBlock = some k → sv.ownBlock ≠ some k ∧ B ≤ k ∧ k < w.heap.size
theorem FamI.nil (B : Nat) (w : World) (sv : Value) (f : Nat → List Int) : FamI B w sv [] f := fun j hj => absurd hj (Nat.not_lt_zero _)
theorem FamI.ex {B : Nat} {w w' : World} {sv : Value} {us : List Value} {f : Nat → List Int} (e : Ex w w') (h : FamI B w sv us f) : FamI B w' sv us f := fun j hj => ⟨IntsK.ex e (h j hj).1, fun k hk => ⟨((h j hj).2 k hk).1, ((h j hj).2 k hk).2.1, Nat.lt_of_lt_of_le ((h j hj).2 k hk).2.2 e.size⟩⟩
theorem FamI.kept {B : Nat} {w w' : World} {sv : Value} {us : List Value} {f : Nat → List Int} {b : Nat} (h : FamI B w sv us f) (hg : w.grownBy w' (some b)) (hb : b < B) : FamI B w' sv us f :=
  fun j hj => ⟨Ints.keptB (h j hj).1 hg (by
    cases hu : (us.getD j undef).ownBlock with
    | none => exact .inl rfl
    | some k => exact .inr fun e => by cases e; have := ((h j hj).2 b hu).2.1; omega), fun k hk => ⟨((h j hj).2 k hk).1, ((h j hj).2 k hk).2.1, Nat.lt_of_lt_of_le ((h j hj).2 k hk).2.2 hg.size⟩⟩
/-- One more list, appended. -/
theorem FamI.next {B : Nat} {wr wx wq : World} {sv sv2 u : Value} {us : List Value} {f : Nat → List Int} {k : Nat} (h : FamI B wr sv us f) (hk : us.length = k) (he : Ex wr wx) (hu : Ints wx u (f k)) (hul : ∀ b, u.ownBlock = some b → wr.heap.size ≤ b ∧ b < wx.heap.size) (hB : B ≤ wr.heap.size) (hsv : ∀ b, sv.ownBlock = some b → B ≤ b ∧ b < wr.heap.size)
    (hg : wx.grownBy wq sv.ownBlock) (hbl : sv2.ownBlock = sv.ownBlock ∨ sv2.ownBlock = some wx.heap.size) : FamI B wq sv2 (us ++ [u]) f := by
  intro j hj
  rw [List.length_append, List.length_singleton] at hj
  by_cases e : j = k
  · subst e
    have e2 : (us ++ [u]).getD j undef = u := by simp only [List.getD]; rw [List.getElem?_append_right (by omega), hk]; simp
    rw [e2]
    refine ⟨Ints.keptB hu hg ?_, fun b hb => ⟨?_, Nat.le_trans hB (hul b hb).1, Nat.lt_of_lt_of_le (hul b hb).2 hg.size⟩⟩
    · cases hu2 : u.ownBlock with
      | none => exact .inl rfl
      | some b => exact .inr fun e3 => by have := hsv b e3.symm; have := (hul b hu2).1; omega
    · rcases hbl with e3 | e3
      · rw [e3]; exact fun e4 => by have := hsv b e4; have := (hul b hb).1; omega
      · rw [e3]; exact fun e4 => by cases e4; have := (hul _ hb).2; omega
  · have e2 : (us ++ [u]).getD j undef = us.getD j undef := by simp only [List.getD]; rw [List.getElem?_append_left (by omega)]
    rw [e2]
    obtain ⟨h1, h2⟩ := h j (by omega)
    refine ⟨Ints.keptB (IntsK.ex he h1) hg ?_, fun b hb => ⟨?_, (h2 b hb).2.1, Nat.lt_of_lt_of_le (h2 b hb).2.2 (Nat.le_trans he.size hg.size)⟩⟩
    · cases hu2 : (us.getD j undef).ownBlock with
      | none => exact .inl rfl
      | some b => exact .inr fun e3 => (h2 b hu2).1 e3.symm
    · rcases hbl with e3 | e3
      · rw [e3]; exact (h2 b hb).1
      · rw [e3]; exact fun e4 => by cases e4; have := (h2 _ hb).2.2; have := he.size; omega
theorem cv2_bd (A L : Nat → Int) (n : Nat) : ∀ s, 0 ≤ (cv A L n s).2 ∧ (cv A L n s).2 ≤ s
  | 0 => by simp [cv]
  | s + 1 => by
    have ih := cv2_bd A L n s
    by_cases h : A (n - (s + 1)) + L (s + 1) < (cv A L n s).1
    · rw [cv_yes h]; dsimp only; omega
    · rw [cv_no h]; omega
theorem sh_bd (rs : List (List (Int × Int))) (i j : Nat) : 0 ≤ shTo rs i j ∧ shTo rs i j ≤ j := cv2_bd _ _ j j
/-- Where each regulator's own ticks begin. -/
def frS (S : Nat → Nat → Int) (m n k : Nat) : Nat := remS S m n (m - k) - remS S m n m
theorem rem_step {S : Nat → Nat → Int} (hS : ∀ i j, 0 ≤ S i j ∧ S i j ≤ j) (m n k : Nat) : remS S m n (k + 1) ≤ remS S m n k := Nat.sub_le _ _
theorem rem_mono {S : Nat → Nat → Int} (m n : Nat) {a b : Nat} (h : a ≤ b) : remS S m n b ≤ remS S m n a := by
  induction h with
  | refl => exact Nat.le_refl _
  | step _ ih => exact Nat.le_trans (Nat.sub_le _ _) ih
theorem fr_zero (S : Nat → Nat → Int) (m n : Nat) : frS S m n 0 = 0 := by simp [frS]
theorem fr_step {S : Nat → Nat → Int} (hS : ∀ i j, 0 ≤ S i j ∧ S i j ≤ j) {m n k : Nat} (hk : k < m) : ((frS S m n (k + 1) : Nat) : Int) = frS S m n k + partS S m n k ∧ 0 ≤ partS S m n k := by
  unfold frS partS
  have h1 := rem_mono (S := S) m n (show m - k ≤ m by omega)
  have h2 := rem_mono (S := S) m n (show m - (k + 1) ≤ m by omega)
  have e : m - k = (m - (k + 1)) + 1 := by omega
  have h3 := hS k (remS S m n (m - (k + 1)))
  have e2 : remS S m n (m - k) = remS S m n (m - (k + 1)) - (S k (remS S m n (m - (k + 1)))).toNat := by
    rw [e]; simp only [remS]; rw [show m - 1 - (m - (k + 1)) = k by omega]
  rw [show m - 1 - k = m - (k + 1) by omega]
  omega
theorem ShB.ints {w : World} {T : TypeId} {B : Nat} {sv : Value} {us : List Value} {n k : Nat} {rs : List (List (Int × Int))} (h : ShB w T B sv us n rs k) (hn : n ≤ 900) : ∀ i, i < us.length → Ints w (us.getD i undef) ((List.range (n + 1)).map (shTo rs i)) := fun i hi => by
  obtain ⟨g, e, hb, _, _⟩ := h.2 i (by have := h.1; omega)
  rw [e]
  exact IntsK.built (k := .i64) (n := n + 1) hb (by simp) (by simp; omega)
theorem ShB.one {w : World} {T : TypeId} {B : Nat} {sv : Value} {us : List Value} {n k : Nat} {rs : List (List (Int × Int))} (h : ShB w T B sv us n rs k) : ∀ q ∈ us, q.oneCell' = true := fun q hq => by
  obtain ⟨i, hi, rfl⟩ := List.getElem_of_mem hq
  obtain ⟨g, e, _⟩ := h.2 i (by have := h.1; omega)
  have e2 : us.getD i undef = us[i] := by simp [hi]
  rw [← e2, e]; rfl
theorem fr_le (S : Nat → Nat → Int) (m n k : Nat) : frS S m n k ≤ n := Nat.le_trans (Nat.sub_le _ _) (remS_le _)
/-- A course by its numbers: what players take, and regulators pass, all of it from block B on. -/
def WorstAt (B : Nat) (w : World) (pls rs : List (List (Int × Int))) (n : Nat) (dv cv : Value) (ds cs : List Value) : Prop :=
  (Vals w dv ds ∧ ∀ k, dv.ownBlock = some k → B ≤ k) ∧ (Vals w cv cs ∧ ∀ k, cv.ownBlock = some k → B ≤ k) ∧ ds.length = pls.length ∧ cs.length = rs.length ∧
      (∀ j, j < pls.length → Ints w (ds.getD j undef) (growL (moN (pls.getD j [])) n) ∧ ∀ k, (ds.getD j undef).ownBlock = some k → B ≤ k) ∧
      ∀ j, j < rs.length → Ints w (cs.getD j undef) (slowL (leN (rs.getD j [])) n (frS (shTo rs) rs.length n j) (partS (shTo rs) rs.length n j).toNat) ∧ ∀ k, (cs.getD j undef).ownBlock = some k → B ≤ k
theorem ne_of_low {o : Option Nat} {b B : Nat} (h : ∀ k, o = some k → B ≤ k) (hb : b < B) : o = none ∨ o ≠ some b := by
  cases o with
  | none => exact .inl rfl
  | some k => exact .inr fun e => by cases e; have := h b rfl; omega
theorem WorstAt.grown {B b : Nat} {w w' : World} {pls rs : List (List (Int × Int))} {n : Nat} {dv cv : Value} {ds cs : List Value} (h : WorstAt B w pls rs n dv cv ds cs) (hg : w.grownBy w' (some b)) (hb : b < B) : WorstAt B w' pls rs n dv cv ds cs :=
  ⟨⟨h.1.1.keptB hg (ne_of_low h.1.2 hb), h.1.2⟩, ⟨h.2.1.1.keptB hg (ne_of_low h.2.1.2 hb), h.2.1.2⟩, h.2.2.1, h.2.2.2.1, fun j hj => ⟨(h.2.2.2.2.1 j hj).1.keptB hg (ne_of_low (h.2.2.2.2.1 j hj).2 hb), (h.2.2.2.2.1 j hj).2⟩, fun j hj => ⟨(h.2.2.2.2.2 j hj).1.keptB hg (ne_of_low (h.2.2.2.2.2 j hj).2 hb), (h.2.2.2.2.2 j hj).2⟩⟩
theorem WorstAt.ex {B : Nat} {w w' : World} {pls rs : List (List (Int × Int))} {n : Nat} {dv cv : Value} {ds cs : List Value} (e : Ex w w') (h : WorstAt B w pls rs n dv cv ds cs) : WorstAt B w' pls rs n dv cv ds cs :=
  ⟨⟨h.1.1.ex e, h.1.2⟩, ⟨h.2.1.1.ex e, h.2.1.2⟩, h.2.2.1, h.2.2.2.1, fun j hj => ⟨(h.2.2.2.2.1 j hj).1.ex e, (h.2.2.2.2.1 j hj).2⟩, fun j hj => ⟨(h.2.2.2.2.2 j hj).1.ex e, (h.2.2.2.2.2 j hj).2⟩⟩
theorem WorstAt.mono {B B' : Nat} {w : World} {pls rs : List (List (Int × Int))} {n : Nat} {dv cv : Value} {ds cs : List Value} (h : WorstAt B w pls rs n dv cv ds cs) (hb : B' ≤ B) : WorstAt B' w pls rs n dv cv ds cs :=
  ⟨⟨h.1.1, fun k hk => Nat.le_trans hb (h.1.2 k hk)⟩, ⟨h.2.1.1, fun k hk => Nat.le_trans hb (h.2.1.2 k hk)⟩, h.2.2.1, h.2.2.2.1, fun j hj => ⟨(h.2.2.2.2.1 j hj).1, fun k hk => Nat.le_trans hb ((h.2.2.2.2.1 j hj).2 k hk)⟩, fun j hj => ⟨(h.2.2.2.2.2 j hj).1, fun k hk => Nat.le_trans hb ((h.2.2.2.2.2 j hj).2 k hk)⟩⟩
end Go.Pv
namespace Go.Proofs.Ytlphfobpheefkaa
open Go.Pv Go.RowKit Go.Sort
set_option maxHeartbeats 8000000
set_option maxRecDepth 20000
theorem worst_any (pv rv : Value) (us vs : List Value) (pls rs : List (List (Int × Int))) (n : Nat) (w : World) (h : Vals w pv us) (hx : BLs w us pls) (h2 : Vals w rv vs) (hx2 : BLs w vs rs) (hb : ∀ i, i < pls.length → bErr (pls.getD i []) = 0) (hb2 : ∀ i, i < rs.length → bErr (rs.getD i []) = 0) (hpl : pls.length ≤ 3) (hrl : rs.length ≤ 3) (hn : n ≤ 200) :
    Ret Try.prog 60 [.agg #[pv, rv], .int .i64 (n : Int)] w fun r w' => ∃ dv cv ds cs, r = .agg #[dv, cv] ∧ WorstAt w.heap.size w' pls rs n dv cv ds cs := by
  have hp1 := h.one
  have hr1 := h2.one
  have hul := hx.1
  have hvl := hx2.1
  have tkA : True := trivial
  have tk2 : True := trivial
  refine ret_of_c Try.func60 rfl Try.ntmps60 (Nat.le_of_ble_eq_true rfl) (by dsimp only [ini, Nat.reduceAdd] <;> exact rfl) ?_
  repeat' (first
      | (clear tk2; (with_reducible apply W_box); exact rfl; exact rfl; intro b2 wq hbq he hnq; have hltq := Bx.lt hbq; have hsz := he.size; have hx2' : Bx wq b2 [pv, rv] 55 := hbq; have tk4 : True := trivial)
      | (clear tk4; (with_reducible apply W_alloc); exact rfl; intro b4 wq hbq he hnq; have hltq := Bx.lt hbq; have hsz := he.size; have hx4 : Bx wq b4 [.slice none 0 0, .slice none 0 0] 59 := hbq; have tk5 : True := trivial)
      | (clear tk5; (with_reducible apply W_alloc); exact rfl; intro b5 wA hbq he hnq; have hltq := Bx.lt hbq; have hsz := he.size; have hx5 : Bx wA b5 [.slice none 0 0, .slice none 0 0] 59 := hbq; (have hx2' : Bx wA b2 [pv, rv] 55 := Bx.ex (by repeat (first | exact Ex.refl _ | assumption | (refine Ex.of_grown ?_ (by assumption) (by intro k hk; cases hk; omega)) | (refine Ex.trans ?_ (by assumption)))) hx2'); (have hx4 : Bx wA b4 [.slice none 0 0, .slice none 0 0] 59 := Bx.ex (by repeat (first | exact Ex.refl _ | assumption | (refine Ex.of_grown ?_ (by assumption) (by intro k hk; cases hk; omega)) | (refine Ex.trans ?_ (by assumption)))) hx4); (have hewA : Ex w wA := (show Ex w _ from (by repeat (first | exact Ex.refl _ | assumption | (refine Ex.of_grown ?_ (by assumption) (by intro k hk; cases hk; omega)) | (refine Ex.trans ?_ (by assumption)))))))
      | ((with_reducible apply W_op); exact rfl; exact rfl; exact r_lenVals rfl (Vals.ex (show Ex w _ from (by repeat (first | exact Ex.refl _ | assumption | (refine Ex.of_grown ?_ (by assumption) (by intro k hk; cases hk; omega)) | (refine Ex.trans ?_ (by assumption))))) h))
      | ((with_reducible (show C _ _ _ _ _ _)); clear tkA; refine c_loopG (fun (k : Nat) ps wr => ∃ i : Int, ∃ sv : Value, ∃ ds : List Value, ps = [(1, .int .i64 (n : Int)), (2, .pointer (some ⟨b2, 0, none⟩)), (4, .pointer (some ⟨b4, 0, none⟩)), (5, .pointer (some ⟨b5, 0, none⟩)), (13, pv), (14, .int .i64 (us.length : Int)), (15, .int .i64 i)] ∧ i = k ∧ k ≤ us.length ∧ Bx wr b5 [sv, .slice none 0 0] 59 ∧ OwnV 30 wA.heap.size wr sv ds ∧ ds.length = k ∧ FamI wA.heap.size wr sv ds (fun j => growL (moN (pls.getD j [])) n) ∧ wA.grownBy wr (some b5) ∧ Ex w wr) (fun k => us.length - k) 0 _ ⟨_, _, _, rfl, rfl, Nat.zero_le _, hx5, OwnV.nil _ _ _, rfl, FamI.nil _ _ _ _, World.grownBy_refl' _ _, hewA⟩ ⟨rfl, rfl, rfl, rfl, rfl, rfl, rfl, trivial⟩ (by ((conv => lhs; whnf) <;> exact rfl)) (by ((conv => lhs; whnf) <;> exact rfl)) ?_; rintro J hJ k u ps wr ⟨i, sv, ds, rfl, rfl, hk, hx5, hsv, hdl, hfm, hG, he⟩; have hsz := he.size; have tkB : True := trivial)
      | (clear tkB; (have hsv1 := hsv.one); (have hGs := hG.size); (have hslt := hsv.lt); (by_cases hkl : k < us.length; (have hpk := hx.2 k hkl; have hpk1 := hpk.one; have hbk := hb k (by omega); have hbi := bErr_inv hbk; have tkC : True := trivial); rotate_left 1; ((have hkl2 : k = us.length := (by omega)); (have hx2w := Bx.grown hx2' hG (by simp; omega)); (have hx4w := Bx.grown hx4 hG (by simp; omega)); have tkE : True := trivial)))
      | ((with_reducible apply c_cond_dec); exact rfl; intro _; rotate_left 1; intro _; (all_goals (try (exfalso; (focus (omega; done))))))
      | (have _ := tkC; refine W_indexVals (i := k) (v := pv) (xs := us) rfl (Vals.ex (show Ex w _ from (by repeat (first | exact Ex.refl _ | assumption | (refine Ex.of_grown ?_ (by assumption) (by intro k hk; cases hk; omega)) | (refine Ex.trans ?_ (by assumption))))) h) rfl (by omega) ?_; intro pq hpq)
      | (have _ := tkC; refine c_mixX (id := 5) [] [0, 1, 2, 3, 4] 6 #[true, true, true, true, true, false, false, false, false, false, false] [false, false, false, false, false, false, false, false, false, false, false] [true, true, true, true, true, false, false, false, false, false, false] (by kernel_rfl) (by kernel_rfl) (by kernel_rfl) (by dsimp only [sel] <;> exact rfl) (by dsimp only [sel] <;> exact rfl) ?_)
      | (have _ := tkC; refine W_call (most_any (us.getD k undef) (pls.getD k []) n _ (Prs.ex (show Ex w _ from (by repeat (first | exact Ex.refl _ | assumption | (refine Ex.of_grown ?_ (by assumption) (by intro k hk; cases hk; omega)) | (refine Ex.trans ?_ (by assumption))))) hpk) hbk (by omega)) rfl ?_; rintro mv wm hmv hem; have hsz := hem.size; have hmv1 := OwnR.one hmv; clear tkC; have tkD : True := trivial)
      | (have _ := tkD; refine W_call (growth_any mv (bestL (covF (pls.getD k [])) lowC n) (moN (pls.getD k [])) n _ (OwnR.row p3_len (OwnR.ex (show Ex wm _ from (by repeat (first | exact Ex.refl _ | assumption | (refine Ex.of_grown ?_ (by assumption) (by intro k hk; cases hk; omega)) | (refine Ex.trans ?_ (by assumption))))) hmv)) (bestL_len _ _ _) (by omega) (fun j hj => by rw [bestL_get _ _ _ _ (by omega)]; rfl) (fun j hj => by have := mo_bd hbi.1.1 hbi.2 j; omega)) rfl ?_; rintro gv wg howg heg; have hsz := heg.size; have hgv1 := howg.one; clear tkD; have tkF : True := trivial)
      | (have _ := tkF; clear tkF; (with_reducible apply W_bs1); ((conv => lhs; whnf) <;> exact rfl); (first | exact rfl | assumption | exact IntsK.one (by assumption) | exact Prs.one (by assumption) | exact OwnP.one (by assumption) | exact Own.one (by assumption) | exact Row.one (by assumption) | exact OwnR.one (by assumption)); decide; decide; exact rfl; exact rfl; ((simp only [lay, lset, List.replicate_succ, List.replicate_zero]) <;> exact rfl); intro bs wq hbq he hnq; have hltq := Bx.lt hbq; have hsz := he.size; have tkG : True := trivial)
      | (clear tkG; refine W_appendF (w0 := w) (base := wA.heap.size) (v := sv) (m := gv) (xs := ds) rfl hgv1 rfl (OwnV.ex (show Ex wr _ from (by repeat (first | exact Ex.refl _ | assumption | (refine Ex.of_grown ?_ (by assumption) (by intro k hk; cases hk; omega)) | (refine Ex.trans ?_ (by assumption))))) hsv) rfl (by repeat (first | assumption | ((with_reducible apply Bx.grownS); assumption; (first | omega | exact Bx.ne (by assumption) (by omega))) | ((with_reducible apply Bx.below); assumption; omega) | ((with_reducible apply Bx.ex); assumption))) (by omega) (show Ex w _ from (by repeat (first | exact Ex.refl _ | assumption | (refine Ex.of_grown ?_ (by assumption) (by intro k hk; cases hk; omega)) | (refine Ex.trans ?_ (by assumption))))) hewA.size (by omega) ?_; intro sv2 wq hsv2 he2 hkq hgqA hbl2; have hsv21 := hsv2.one; (have hgb := howg.block); (have hwm := (show Ex wr wm from (by repeat (first | exact Ex.refl _ | assumption | (refine Ex.of_grown ?_ (by assumption) (by intro k hk; cases hk; omega)) | (refine Ex.trans ?_ (by assumption))))).size); (obtain ⟨wx, hxw, hxg, hgi, hgA, hbA⟩ : ∃ wx, Ex wr wx ∧ Ex wg wx ∧ Ints wx gv (growL (moN (pls.getD k [])) n) ∧ wx.grownBy wq sv.ownBlock ∧ (sv2.ownBlock = sv.ownBlock ∨ sv2.ownBlock = some wx.heap.size) := ⟨_, (show Ex wr _ from (by repeat (first | exact Ex.refl _ | assumption | (refine Ex.of_grown ?_ (by assumption) (by intro k hk; cases hk; omega)) | (refine Ex.trans ?_ (by assumption))))), (show Ex wg _ from (by repeat (first | exact Ex.refl _ | assumption | (refine Ex.of_grown ?_ (by assumption) (by intro k hk; cases hk; omega)) | (refine Ex.trans ?_ (by assumption))))), (Pv.Own.ints (Pv.Own.ex (show Ex wg _ from (by repeat (first | exact Ex.refl _ | assumption | (refine Ex.of_grown ?_ (by assumption) (by intro k hk; cases hk; omega)) | (refine Ex.trans ?_ (by assumption))))) howg)), hgqA, hbl2⟩); (have hgs := hxg.size); have tkH : True := trivial)
      | (clear tkH; refine W_store (b := b5) (o := 0) (v := sv2) rfl (Bx.grown (Bx.ex hxw hx5) hgA (fun e => by have := (hslt b5 e.symm).1; omega)) (Nat.zero_lt_succ _) rfl hsv21 ?_; intro wz hx5z hgz; have hx5z : Bx wz b5 [sv2, .slice none 0 0] 59 := hx5z; (have hsvz := OwnV.grownS hgz (by omega) hsv2); (have hfmz := FamI.kept (FamI.next hfm hdl hxw hgi (fun b hb => by have := hgb b hb; omega) hGs hslt hgA hbA) hgz (by omega)); (have hGz := grow4 hG hxw hgA hgz (fun g hg => (hslt g hg).1)); (have hez : Ex w wz := Ex.of_grown hewA hGz (by intro k hk; cases hk; omega)); have hsz := hGz.size)
      | (have _ := tkE; refine W_call (rowOf_any pv rv vs rs n _ (Vals.ex (show Ex w _ from (by repeat (first | exact Ex.refl _ | assumption | (refine Ex.of_grown ?_ (by assumption) (by intro k hk; cases hk; omega)) | (refine Ex.trans ?_ (by assumption))))) h2) (BLs.ex (show Ex w _ from (by repeat (first | exact Ex.refl _ | assumption | (refine Ex.of_grown ?_ (by assumption) (by intro k hk; cases hk; omega)) | (refine Ex.trans ?_ (by assumption))))) hx2) hp1 hb2 hrl (by omega)) rfl ?_; rintro rov wR ⟨ga, shv, shs, B0, rfl, hga, hga0, hshv, hshB⟩ heR; have hsz := heR.size; have hshv1 := hshv.one; have hshl := hshB.1; clear tkE; have tkI : True := trivial)
      | (clear tkI; refine W_call (split_any _ shv shs (shTo rs) n n _ hshv rfl (hshB.ints (by omega)) (fun i j _ _ => sh_bd rs i j) (Nat.le_refl _) (by omega) (by omega) hshB.one) rfl ?_; rw [hshl]; rintro pav wS ⟨gp, rfl, hgp, hgp0⟩ heS; have hsz := heS.size; have hlgp := Bx.lt hgp; have tkK : True := trivial)
      | (clear tkK; refine W_call (regulatorsOf_any pv rv vs _ (Vals.ex (show Ex w _ from (by repeat (first | exact Ex.refl _ | assumption | (refine Ex.of_grown ?_ (by assumption) (by intro k hk; cases hk; omega)) | (refine Ex.trans ?_ (by assumption))))) h2) hp1 hx2.one (by omega)) rfl ?_; rintro regs wB hregs heB; have hsz := heB.size; have hrg1 := OwnR.one hregs; (have hewrB : Ex wr wB := (show Ex wr _ from (by repeat (first | exact Ex.refl _ | assumption | (refine Ex.of_grown ?_ (by assumption) (by intro k hk; cases hk; omega)) | (refine Ex.trans ?_ (by assumption)))))); (have hx5 := Bx.ex hewrB hx5); (have hx2w := Bx.ex hewrB hx2w); (have hx4w := Bx.ex hewrB hx4w); (have hsv := OwnV.ex hewrB hsv); (have hfm := FamI.ex hewrB hfm); (have hgp := Bx.ex heB hgp); (have hewB : Ex w wB := (show Ex w _ from (by repeat (first | exact Ex.refl _ | assumption | (refine Ex.of_grown ?_ (by assumption) (by intro k hk; cases hk; omega)) | (refine Ex.trans ?_ (by assumption)))))); (have hszB := hewrB.size); have tkL : True := trivial)
      | (have _ := tkL; (with_reducible apply W_op); exact rfl; exact rfl; exact r_lenR rfl (OwnR.row p2v_len hregs))
      | ((with_reducible (show C _ _ _ _ _ _)); clear tkL; refine c_loopG (fun (m : Nat) ps wr => ∃ fr : Int, ∃ i : Int, ∃ cv : Value, ∃ cs : List Value, ps = [(1, .int .i64 (n : Int)), (4, .pointer (some ⟨b4, 0, none⟩)), (5, .pointer (some ⟨b5, 0, none⟩)), (8, .int .i64 fr), (9, .slice (some ⟨gp, 0, none⟩) rs.length rs.length), (36, regs), (37, .int .i64 ((regL vs).length : Int)), (38, .int .i64 i)] ∧ fr = (frS (shTo rs) rs.length n m : Int) ∧ i = m ∧ m ≤ vs.length ∧ Bx wr b5 [sv, cv] 59 ∧ OwnV 30 wB.heap.size wr cv cs ∧ cs.length = m ∧ FamI wB.heap.size wr cv cs (fun j => slowL (leN (rs.getD j [])) n (frS (shTo rs) rs.length n j) (partS (shTo rs) rs.length n j).toNat) ∧ wB.grownBy wr (some b5) ∧ Ex w wr) (fun m => vs.length - m) 0 _ ⟨_, _, _, _, rfl, (by rw [fr_zero]; rfl), rfl, Nat.zero_le _, hx5, OwnV.nil _ _ _, rfl, FamI.nil _ _ _ _, World.grownBy_refl' _ _, hewB⟩ ⟨rfl, rfl, rfl, rfl, rfl, rfl, rfl, rfl, trivial⟩ (by ((conv => lhs; whnf) <;> exact rfl)) (by ((conv => lhs; whnf) <;> exact rfl)) ?_; rintro K2 hK2 m u ps wr ⟨fr, i, cv, cs, rfl, rfl, rfl, hm, hx5m, hcv, hcl, hfc, hGm, he⟩; have hsz := he.size; have tkM : True := trivial)
      | (clear tkM; (have hcv1 := hcv.one); (have hGs := hGm.size); (have hclt := hcv.lt); (have hrlv := regL_len vs); (have hregm := OwnR.grownS hGm (by omega) hregs); (have hgpm := Bx.grown hgp hGm (by simp; omega)); (by_cases hml : m < vs.length; (have hrg := regL_get hml); (have hpk := hx2.2 m hml); (have hpk1 := hpk.one); (have hbk := hb2 m (by omega)); (have hst := fr_step (sh_bd rs) (n := n) (show m < rs.length by omega)); (have hfl := fr_le (shTo rs) rs.length n (m + 1)); (obtain ⟨p, hp⟩ : ∃ p : Nat, partS (shTo rs) rs.length n m = p := ⟨(partS (shTo rs) rs.length n m).toNat, by omega⟩); (have hpn : (partS (shTo rs) rs.length n m).toNat = p := (by omega)); (have hat : (((List.range rs.length).map (partS (shTo rs) rs.length n)).map (Value.int .i64))[m * 1]? = some (.int .i64 (p : Int)) := (by rw [← hp]; exact map_at (by omega))); have tkN : True := trivial); rotate_left 1; have tkZ : True := trivial)
      | (have _ := tkN; refine W_indexRw (f := p2v) (n := 2) (v := regs) (xs := regL vs) (i := m) (undef, 0) p2v_len (by decide) rfl (OwnR.row p2v_len hregm) rfl (by omega) ?_; intro pb po hpc; rw [hrg] at hpc; (have hpc : Cells wr ⟨pb, po, none⟩ [vs.getD m undef, .int .i64 0] := hpc))
      | (have _ := tkN; (with_reducible apply W_op); exact rfl; exact rfl; exact r_loadA rfl hpc rfl)
      | (have _ := tkN; (with_reducible apply W_alloc); exact rfl; intro b11 w11 hb11 he11 hn11; have hl11 := Bx.lt hb11; have hsz := he11.size; clear tkN; have tkO : True := trivial)
      | (clear tkO; (with_reducible apply W_storeA); exact rfl; exact hb11; exact rfl; exact rfl; exact rfl; (repeat' (first | exact trivial | exact rfl | exact hpk1 | constructor)); intro w12 hb11 hgq; have hsz := hgq.size; (have hew12 : Ex wr w12 := Ex.of_grown he11 hgq (by intro k hk; cases hk; omega)); have hs12 := hew12.size; have tkP : True := trivial)
      | (have _ := tkP; refine c_mixX (id := 12) [] [0, 1, 2, 3, 4, 5, 6, 7, 8] 5 #[true, true, true, true, true, true, true, true, true, false, false, false, false, false] [false, false, false, false, false, false, false, false, false, false, false, false, false, false] [true, true, true, true, true, true, true, true, true, false, false, false, false, false] (by kernel_rfl) (by kernel_rfl) (by kernel_rfl) (by dsimp only [sel] <;> exact rfl) (by dsimp only [sel] <;> exact rfl) ?_)
      | (have _ := tkP; (with_reducible apply WM_op); exact rfl; exact rfl; (intro wq he; exact r_indexBx4 (i := m) rfl rfl (by omega)))
      | (have _ := tkP; (with_reducible apply WM_op); exact rfl; exact rfl; (intro wq he; exact r_load rfl rfl (((Bx.cell (Bx.ex (Ex.trans hew12 he) hgpm) _)).trans hat)))
      | (have _ := tkP; refine W_call (slow_any (vs.getD m undef) 0 (rs.getD m []) n (frS (shTo rs) rs.length n m) p _ (Prs.ex (show Ex w _ from (by repeat (first | exact Ex.refl _ | assumption | (refine Ex.of_grown ?_ (by assumption) (by intro k hk; cases hk; omega)) | (refine Ex.trans ?_ (by assumption))))) hpk) hbk (by omega) (by omega)) rfl ?_; rintro slv wg ⟨gs, rfl, hgs, hgs0⟩ heg; have hsz := heg.size; have hlgs := Bx.lt hgs; (have hgr : wr.heap.size ≤ gs := Nat.le_trans (show Ex wr _ from (by repeat (first | exact Ex.refl _ | assumption | (refine Ex.of_grown ?_ (by assumption) (by intro k hk; cases hk; omega)) | (refine Ex.trans ?_ (by assumption))))).size hgs0); have tkQ : True := trivial)
      | (have _ := tkQ; clear tkQ; (with_reducible apply W_bs1); ((conv => lhs; whnf) <;> exact rfl); (first | exact rfl | assumption | exact IntsK.one (by assumption) | exact Prs.one (by assumption) | exact OwnP.one (by assumption) | exact Own.one (by assumption) | exact Row.one (by assumption) | exact OwnR.one (by assumption)); decide; decide; exact rfl; exact rfl; ((simp only [lay, lset, List.replicate_succ, List.replicate_zero]) <;> exact rfl); intro bs wq hbq he hnq; have hltq := Bx.lt hbq; have hsz := he.size; have tkR : True := trivial)
      | (clear tkR; refine W_appendF (w0 := w) (base := wB.heap.size) (v := cv) (m := .slice (some ⟨gs, 0, none⟩) n n) (xs := cs) rfl rfl rfl (OwnV.ex (show Ex wr _ from (by repeat (first | exact Ex.refl _ | assumption | (refine Ex.of_grown ?_ (by assumption) (by intro k hk; cases hk; omega)) | (refine Ex.trans ?_ (by assumption))))) hcv) rfl (by repeat (first | assumption | ((with_reducible apply Bx.grownS); assumption; (first | omega | exact Bx.ne (by assumption) (by omega))) | ((with_reducible apply Bx.below); assumption; omega) | ((with_reducible apply Bx.ex); assumption))) (by omega) (show Ex w _ from (by repeat (first | exact Ex.refl _ | assumption | (refine Ex.of_grown ?_ (by assumption) (by intro k hk; cases hk; omega)) | (refine Ex.trans ?_ (by assumption))))) hewB.size (by omega) ?_; intro cv2 wq hcv2 he2 hkq hgqA hbl2; have hcv21 := hcv2.one; (obtain ⟨wx, hxw, hxg, hgi, hgA, hbA⟩ : ∃ wx, Ex wr wx ∧ Ex wg wx ∧ Ints wx (.slice (some ⟨gs, 0, none⟩) n n) (slowL (leN (rs.getD m [])) n (frS (shTo rs) rs.length n m) (partS (shTo rs) rs.length n m).toNat) ∧ wx.grownBy wq cv.ownBlock ∧ (cv2.ownBlock = cv.ownBlock ∨ cv2.ownBlock = some wx.heap.size) := ⟨_, (show Ex wr _ from (by repeat (first | exact Ex.refl _ | assumption | (refine Ex.of_grown ?_ (by assumption) (by intro k hk; cases hk; omega)) | (refine Ex.trans ?_ (by assumption))))), (show Ex wg _ from (by repeat (first | exact Ex.refl _ | assumption | (refine Ex.of_grown ?_ (by assumption) (by intro k hk; cases hk; omega)) | (refine Ex.trans ?_ (by assumption))))), (by rw [hpn]; exact IntsK.built (k := .i64) (n := n) (Bx.ex (show Ex wg _ from (by repeat (first | exact Ex.refl _ | assumption | (refine Ex.of_grown ?_ (by assumption) (by intro k hk; cases hk; omega)) | (refine Ex.trans ?_ (by assumption))))) hgs) (slowL_len (by omega)).symm (by rw [slowL_len (by omega)]; omega)), hgqA, hbl2⟩); (have hgs := hxg.size); have tkS : True := trivial)
      | (clear tkS; refine W_store (b := b5) (o := 1) (v := cv2) rfl (Bx.grown (Bx.ex hxw hx5m) hgA (fun e => by have := (hclt b5 e.symm).1; omega)) (Nat.lt_succ_self 1) rfl hcv21 ?_; intro wy hx5y hgy; have hx5y : Bx wy b5 [sv, cv2] 59 := hx5y; (have hcvy := OwnV.grownS hgy (by omega) hcv2); (have hfcy := FamI.kept (FamI.next hfc hcl hxw hgi (fun b hb => by (have hb : gs = b := Option.some.inj hb); omega) hGs hclt hgA hbA) hgy (by omega)); (have hGy := grow4 hGm hxw hgA hgy (fun g hg => (hclt g hg).1)); (have hey : Ex w wy := Ex.of_grown hewB hGy (by intro k hk; cases hk; omega)); (have hgpy := Bx.grown hgp hGy (by simp; omega)); have hsz := hGy.size; have tkT : True := trivial)
      | (have _ := tkT; (with_reducible apply W_op); exact rfl; exact rfl; exact r_indexBx4 (i := m) rfl rfl (by omega))
      | (have _ := tkT; (with_reducible apply W_op); exact rfl; exact rfl; exact r_load rfl rfl ((Bx.cell hgpy _).trans hat))
      | ((first | ((with_reducible apply W_op); exact rfl; exact rfl) | ((with_reducible apply WQ_op); exact rfl; exact rfl; intro wq he) | ((with_reducible apply WM_op); exact rfl; exact rfl; intro wq he) | ((with_reducible apply WB_op); exact rfl; exact rfl; intro wq)); (first | ((with_reducible apply r_move); ((conv => lhs; whnf) <;> exact rfl)) | ((with_reducible apply r_assign); ((conv => lhs; whnf) <;> exact rfl)) | ((with_reducible apply r_fieldAddr); exact rfl) | ((with_reducible apply r_load); exact rfl; exact rfl; (first | assumption | exact (Bx.cell (by repeat (first | assumption | ((with_reducible apply Bx.grownS); assumption; (first | omega | exact Bx.ne (by assumption) (by omega))) | ((with_reducible apply Bx.below); assumption; omega) | ((with_reducible apply Bx.ex); assumption))) _).trans rfl | exact Ex.cell (by assumption) (by assumption))) | ((with_reducible apply r_loadA); exact rfl; (first | assumption | exact Bx.cells (by repeat (first | assumption | ((with_reducible apply Bx.grownS); assumption; (first | omega | exact Bx.ne (by assumption) (by omega))) | ((with_reducible apply Bx.below); assumption; omega) | ((with_reducible apply Bx.ex); assumption))) | exact Cells.ex (by assumption) (by assumption)); exact rfl) | ((with_reducible apply r_lss); exact rfl; exact rfl) | ((with_reducible apply r_add); exact rfl; exact rfl; omega) | ((with_reducible apply r_build1); ((conv => lhs; whnf) <;> exact rfl); (first | exact rfl | assumption | exact IntsK.one (by assumption) | exact Prs.one (by assumption) | exact OwnP.one (by assumption) | exact Own.one (by assumption) | exact Row.one (by assumption) | exact OwnR.one (by assumption)); exact rfl; exact rfl; ((simp only [lay, lset, List.replicate_succ, List.replicate_zero]) <;> exact rfl))))
      | ((with_reducible (show Exit.then _ _ _ _ _)); refine n_roundG (k + 1) (hJ _ _ _ _ ⟨_, _, _, rfl, by omega, by omega, hx5z, hsvz, by (rw [List.length_append, hdl]; rfl), hfmz, hGz, hez⟩ ⟨rfl, rfl, rfl, rfl, rfl, rfl, rfl, trivial⟩ rfl) (by omega))
      | (refine XT_one (t := 5) (s := false) (listed := #[true, true, true, true, true, false, false, false, false, false, false]) (listed' := #[true, true, true, true, true, true, false, false, false, false, false]) (by kernel_rfl) rfl (by kernel_rfl) (by kernel_rfl) ?_)
      | (refine XT_one (t := 6) (s := false) (listed := #[true, true, true, true, true, true, false, false, false, false, false]) (listed' := #[true, true, true, true, true, true, true, false, false, false, false]) (by kernel_rfl) rfl (by kernel_rfl) (by kernel_rfl) ?_)
      | (refine XT_one (t := 7) (s := false) (listed := #[true, true, true, true, true, true, true, false, false, false, false]) (listed' := #[true, true, true, true, true, true, true, true, false, false, false]) (by kernel_rfl) rfl (by kernel_rfl) (by kernel_rfl) ?_)
      | (refine XT_one (t := 8) (s := true) (listed := #[true, true, true, true, true, true, true, true, false, false, false]) (listed' := #[true, true, true, true, true, true, true, true, true, false, false]) (by kernel_rfl) rfl (by kernel_rfl) (by kernel_rfl) ?_)
      | (refine XT_one (t := 9) (s := true) (listed := #[true, true, true, true, true, true, true, true, true, false, false]) (listed' := #[true, true, true, true, true, true, true, true, true, true, false]) (by kernel_rfl) rfl (by kernel_rfl) (by kernel_rfl) ?_)
      | (refine XT_one (t := 10) (s := true) (listed := #[true, true, true, true, true, true, true, true, true, true, false]) (listed' := #[true, true, true, true, true, true, true, true, true, true, true]) (by kernel_rfl) rfl (by kernel_rfl) (by kernel_rfl) ?_)
      | (with_reducible apply XB_nil)
      | ((with_reducible apply XM_nil); intro wq he; have hsz := he.size)
      | ((with_reducible apply XT_nil); kernel_rfl)
      | (with_reducible apply x_sink)
      | ((with_reducible apply x_keep); (focus ((repeat (first | assumption | exact Ex.refl _ | (refine Ex.trans ?_ (by assumption)) | (refine Ex.of_grown ?_ (by assumption) (by intro k hk; cases hk; omega)))); done)); intro wq he; have hsz := he.size)
      | ((with_reducible (show Exit.then _ _ _ _ _)); refine n_roundG (m + 1) (hK2 _ _ _ _ ⟨_, _, _, _, rfl, (by omega), by omega, by omega, hx5y, hcvy, by (rw [List.length_append, hcl]; rfl), hfcy, hGy, hey⟩ ⟨rfl, rfl, rfl, rfl, rfl, rfl, rfl, rfl, trivial⟩ rfl) (by omega))
      | (refine XT_one (t := 9) (s := false) (listed := #[true, true, true, true, true, true, true, true, true, false, false, false, false, false]) (listed' := #[true, true, true, true, true, true, true, true, true, true, false, false, false, false]) (by kernel_rfl) rfl (by kernel_rfl) (by kernel_rfl) ?_)
      | (refine XT_one (t := 10) (s := false) (listed := #[true, true, true, true, true, true, true, true, true, true, false, false, false, false]) (listed' := #[true, true, true, true, true, true, true, true, true, true, true, false, false, false]) (by kernel_rfl) rfl (by kernel_rfl) (by kernel_rfl) ?_)
      | (refine XT_one (t := 11) (s := true) (listed := #[true, true, true, true, true, true, true, true, true, true, true, false, false, false]) (listed' := #[true, true, true, true, true, true, true, true, true, true, true, true, false, false]) (by kernel_rfl) rfl (by kernel_rfl) (by kernel_rfl) ?_)
      | (refine XT_one (t := 12) (s := true) (listed := #[true, true, true, true, true, true, true, true, true, true, true, true, false, false]) (listed' := #[true, true, true, true, true, true, true, true, true, true, true, true, true, false]) (by kernel_rfl) rfl (by kernel_rfl) (by kernel_rfl) ?_)
      | (refine XT_one (t := 13) (s := true) (listed := #[true, true, true, true, true, true, true, true, true, true, true, true, true, false]) (listed' := #[true, true, true, true, true, true, true, true, true, true, true, true, true, true]) (by kernel_rfl) rfl (by kernel_rfl) (by kernel_rfl) ?_)
      | (with_reducible apply W_nil)
      | ((with_reducible apply W_storeA); exact rfl; (focus ((repeat (first | assumption | ((with_reducible apply Bx.grownS); assumption; (first | omega | exact Bx.ne (by assumption) (by omega))) | ((with_reducible apply Bx.below); assumption; omega) | ((with_reducible apply Bx.ex); assumption))); done)); exact rfl; exact rfl; exact rfl; (repeat' (first | exact trivial | (first | exact rfl | assumption | exact IntsK.one (by assumption) | exact Prs.one (by assumption) | exact OwnP.one (by assumption) | exact Own.one (by assumption) | exact Row.one (by assumption) | exact OwnR.one (by assumption)) | constructor)); intro wq hbq hgq; have he : Ex w wq := (by repeat (first | assumption | exact Ex.refl _ | (refine Ex.trans ?_ (by assumption)) | (refine Ex.of_grown ?_ (by assumption) (by intro k hk; cases hk; omega)))); have hsz := he.size; have hgz := hgq.size)
      | (with_reducible apply c_seq)
      | ((with_reducible apply c_region); kernel_rfl)
      | (with_reducible apply n_nq)
      | (with_reducible apply c_block)
      | (with_reducible apply c_skip)
      | (with_reducible apply c_ret)
      | (with_reducible apply c_exit)
      | (with_reducible apply n_then)
      | (with_reducible apply n_block)
      | (with_reducible apply e_then)
      | (with_reducible apply e_block)
      | ((with_reducible apply p_retc); exact rfl; exact rfl; exact inferInstance; exact inferInstance; exact rfl; (focus ((repeat (first | assumption | ((with_reducible apply Bx.grownS); assumption; (first | omega | exact Bx.ne (by assumption) (by omega))) | ((with_reducible apply Bx.below); assumption; omega) | ((with_reducible apply Bx.ex); assumption))); done)); exact rfl; refine ⟨_, rfl, ?_, (by repeat (first | assumption | exact Ex.refl _ | (refine Ex.trans ?_ (by assumption)) | (refine Ex.of_grown ?_ (by assumption) (by intro k hk; cases hk; omega))))⟩))
  all_goals first
    | (have hwA2 := hewA.size
       have hwB2 := hewB.size
       have hsm := OwnV.grownS hgq (by omega) (OwnV.grownS hGm (by omega) hsv)
       have hcm := OwnV.grownS hgq (by omega) hcv
       have hfm2 := FamI.kept (FamI.kept hfm hGm (by omega)) hgq (by omega)
       have hfc2 := FamI.kept hfc hgq (by omega)
       exact ⟨sv, cv, ds, cs, rfl, ⟨hsm.vals, fun k hk => by have := (hsm.lt k hk).1; omega⟩, ⟨hcm.vals, fun k hk => by have := (hcm.lt k hk).1; omega⟩, by omega, by omega, fun j hj => ⟨(hfm2 j (by omega)).1, fun k hk => by have := ((hfm2 j (by omega)).2 k hk).2.1; omega⟩, fun j hj => ⟨(hfc2 j (by omega)).1, fun k hk => by have := ((hfc2 j (by omega)).2 k hk).2.1; omega⟩⟩)
    | trace_state
end Go.Proofs.Ytlphfobpheefkaa
