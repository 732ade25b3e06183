/-
  (heavy) (rows) What this text proves: the rows of a plant for each number of ticks, and how many ticks are each regulator's own. Conditions: the values read as lists.
-/
import Derived.Test.YtlphfobpheefkaaVAl
import Derived.Test.YtlphfobpheefkaaTw
set_option linter.unusedVariables false
set_option linter.unusedSimpArgs false
namespace Go.Pv
open Go.RowKit Go.Sort
/-- The row of the first regulators for so many ticks, and the own part of the next one. -/
def rwTo (rs : List (List (Int × Int))) : Nat → Nat → Int
  | 0, j => if j = 0 then 0 else 4503599627370496
  | i + 1, j => conv (rwTo rs i) (leN (rs.getD i [])) j
def shTo (rs : List (List (Int × Int))) (i j : Nat) : Int := shr (rwTo rs i) (leN (rs.getD i [])) j
theorem rw_zero {rs : List (List (Int × Int))} {n : Nat} : ((List.replicate (n + 1) (4503599627370496 : Int)).map (Value.int .i64)).set 0 (.int .i64 0) = ((List.range (n + 1)).map (rwTo rs 0)).map (Value.int .i64) := by
  refine List.ext_getElem? fun i => ?_
  by_cases hi : i < n + 1
  · by_cases e : i = 0
    · subst e
      rw [List.getElem?_set_self (by simp)]
      simp [rwTo]
    · rw [List.getElem?_set_ne (by omega)]
      simp [rwTo, e, hi]
  · rw [List.getElem?_eq_none (by simp; omega), List.getElem?_eq_none (by simp; omega)]
theorem rw_succ (rs : List (List (Int × Int))) (k : Nat) : rwTo rs (k + 1) = conv (rwTo rs k) (leN (rs.getD k [])) := funext fun _ => rfl
theorem sh_eq (rs : List (List (Int × Int))) (k : Nat) : shTo rs k = shr (rwTo rs k) (leN (rs.getD k [])) := funext fun _ => rfl
theorem cv_bd {A L : Nat → Int} {N n : Nat} (hA : ∀ j, j < N → 0 ≤ A j ∧ A j ≤ 4503599627370496) (hL : ∀ j, j < N → 0 ≤ L j) (hn : n < N) : ∀ s, s ≤ n → 0 ≤ (cv A L n s).1 ∧ (cv A L n s).1 ≤ 4503599627370496
  | 0, _ => hA n hn
  | s + 1, hs => by
    have ih := cv_bd hA hL hn s (by omega)
    by_cases h : A (n - (s + 1)) + L (s + 1) < (cv A L n s).1
    · rw [cv_yes h]
      have h1 := hA (n - (s + 1)) (by omega)
      have h2 := hL (s + 1) (by omega)
      dsimp only
      omega
    · rw [cv_no h]; exact ih
theorem rw_bd {rs : List (List (Int × Int))} (h : ∀ i, i < rs.length → bErr (rs.getD i []) = 0) : ∀ (i : Nat), i ≤ rs.length → ∀ j, 0 ≤ rwTo rs i j ∧ rwTo rs i j ≤ 4503599627370496
  | 0, _, j => by simp only [rwTo]; split <;> omega
  | i + 1, hi, j => by
    have ih := rw_bd h i (by omega)
    obtain ⟨_, hb⟩ := bErr_inv (h i (by omega))
    exact cv_bd (N := j + 1) (fun q _ => ih q) (fun q _ => (le_bd hb q).1) (by omega) j (Nat.le_refl _)
theorem regL_len (us : List Value) : (regL us).length = us.length := by simp [regL]
theorem regL_get {us : List Value} {k : Nat} (h : k < us.length) : (regL us).getD k (undef, 0) = (us.getD k undef, 0) := by simp [regL, h]
/-- The shares that are kept of the first regulators. -/
def ShB (w : World) (T : TypeId) (B : Nat) (sv : Value) (us : List Value) (n : Nat) (rs : List (List (Int × Int))) (k : Nat) : Prop :=
  us.length = k ∧ ∀ i, i < k → ∃ g, us.getD i undef = .slice (some ⟨g, 0, none⟩) (n + 1) (n + 1) ∧ Bx w g (((List.range (n + 1)).map (shTo rs i)).map (Value.int .i64)) T ∧ B ≤ g ∧ sv.ownBlock ≠ some g
theorem ShB.nil (w : World) (T : TypeId) (B n : Nat) (rs : List (List (Int × Int))) : ShB w T B (.slice none 0 0) [] n rs 0 := ⟨rfl, fun i hi => absurd hi (Nat.not_lt_zero _)⟩
theorem ShB.next {w wx wq wz : World} {T : TypeId} {B b5 g2 : Nat} {sv sv2 : Value} {us : List Value} {n k : Nat} {rs : List (List (Int × Int))} (h : ShB w T B sv us n rs k) (he : Ex w wx) (hgb : wx.grownBy wq sv.ownBlock) (hgz : wq.grownBy wz (some b5)) (hb5 : b5 < B)
    (hg2 : Bx wq g2 (((List.range (n + 1)).map (shTo rs k)).map (Value.int .i64)) T) (hB2 : B ≤ g2) (hw2 : wx.heap.size ≤ g2) (hblk : ∀ g, sv2.ownBlock = some g → g ≠ g2 ∧ (sv.ownBlock = some g ∨ wx.heap.size ≤ g)) : ShB wz T B sv2 (us ++ [.slice (some ⟨g2, 0, none⟩) (n + 1) (n + 1)]) n rs (k + 1) := by
  refine ⟨by rw [List.length_append, h.1]; rfl, fun i hi => ?_⟩
  by_cases e : i = k
  · subst e
    refine ⟨g2, ?_, Bx.grown hg2 hgz (by simp; omega), hB2, fun hh => (hblk g2 hh).1 rfl⟩
    simp only [List.getD]
    rw [List.getElem?_append_right (by rw [h.1]; omega), h.1]; simp
  · obtain ⟨g, q1, q2, q3, q4⟩ := h.2 i (by omega)
    refine ⟨g, ?_, Bx.grown (Bx.grown (Bx.ex he q2) hgb (fun e => q4 e.symm)) hgz (by simp; omega), q3, fun hh => ?_⟩
    · rw [← q1]
      simp only [List.getD]
      rw [List.getElem?_append_left (by rw [h.1]; omega)]
    · rcases (hblk g hh).2 with a | a
      · exact q4 a
      · have := Bx.lt q2
        have := he.size
        omega
theorem ShB.ex {w w' : World} {T : TypeId} {B : Nat} {sv : Value} {us : List Value} {n k : Nat} {rs : List (List (Int × Int))} (e : Ex w w') (h : ShB w T B sv us n rs k) : ShB w' T B sv us n rs k :=
  ⟨h.1, fun i hi => by obtain ⟨g, a, b, c, d⟩ := h.2 i hi; exact ⟨g, a, Bx.ex e b, c, d⟩⟩
theorem ShB.kept {w w' : World} {T : TypeId} {B b : Nat} {sv : Value} {us : List Value} {n k : Nat} {rs : List (List (Int × Int))} (h : ShB w T B sv us n rs k) (hg : w.grownBy w' (some b)) (hb : b < B) : ShB w' T B sv us n rs k :=
  ⟨h.1, fun i hi => by obtain ⟨g, a, q, c, d⟩ := h.2 i hi; exact ⟨g, a, Bx.grown q hg (by simp; omega), c, d⟩⟩
theorem Ex.grownTo {w w' : World} (e : Ex w w') (row : Option Nat) : w.grownBy w' row := by
  have := e.grownBy
  exact ⟨this.os, this.tape, this.output, this.size, fun k hk _ => this.block k hk (by simp)⟩
theorem grow4 {w wr wx wq wz : World} {row : Option Nat} {b : Nat} (h : w.grownBy wr (some b)) (he : Ex wr wx) (h2 : wx.grownBy wq row) (h3 : wq.grownBy wz (some b)) (hr : ∀ g, row = some g → w.heap.size ≤ g) : w.grownBy wz (some b) := by
  have g1 := he.grownBy
  refine ⟨h3.os.trans (h2.os.trans (g1.os.trans h.os)), h3.tape.trans (h2.tape.trans (g1.tape.trans h.tape)), h3.output.trans (h2.output.trans (g1.output.trans h.output)), Nat.le_trans h.size (Nat.le_trans g1.size (Nat.le_trans h2.size h3.size)), fun k hk hne => ?_⟩
  have a0 := h.block k hk hne
  have a1 := g1.block k (Nat.lt_of_lt_of_le hk h.size) (by simp)
  have a2 := h2.block k (Nat.lt_of_lt_of_le hk (Nat.le_trans h.size g1.size)) (fun e => by have := hr k e.symm; omega)
  have a3 := h3.block k (Nat.lt_of_lt_of_le hk (Nat.le_trans h.size (Nat.le_trans g1.size h2.size))) hne
  rw [a3, a2, a1, a0]
end Go.Pv
namespace Go.Proofs.Ytlphfobpheefkaa
open Go.Pv Go.RowKit Go.Sort
set_option maxHeartbeats 8000000
set_option maxRecDepth 20000
theorem rowOf_any (pv rv : Value) (vs : List Value) (rs : List (List (Int × Int))) (n : Nat) (w : World) (h : Vals w rv vs) (hx : BLs w vs rs) (hp1 : pv.oneCell' = true) (hb : ∀ i, i < rs.length → bErr (rs.getD i []) = 0) (hrl : rs.length ≤ 3) (hn : n ≤ 400) :
    Ret Try.prog 58 [.agg #[pv, rv], .int .i64 (n : Int)] w fun r w' => ∃ ga sv us B, r = .agg #[.slice (some ⟨ga, 0, none⟩) (n + 1) (n + 1), sv] ∧ Bx w' ga (((List.range (n + 1)).map (rwTo rs rs.length)).map (Value.int .i64)) 3 ∧ w.heap.size ≤ ga ∧ Vals w' sv us ∧ ShB w' 3 B sv us n rs rs.length := by
  have hr1 := h.one
  have hlv := hx.1
  have tkP : True := trivial
  have tkQ : True := trivial
  have tkN : True := trivial
  refine ret_of_c Try.func58 rfl Try.ntmps58 (Nat.le_of_ble_eq_true rfl) (by dsimp only [ini, Nat.reduceAdd] <;> exact rfl) ?_
  repeat' (first
      | (clear tkN; (with_reducible apply W_box); exact rfl; exact rfl; intro b2 wq hb2 he hn2; have hlt2 := Bx.lt hb2; have hsz := he.size)
      | (clear tkP; (with_reducible apply W_alloc); exact rfl; intro b4 wq hbq he hnq; have hltq := Bx.lt hbq; have hsz := he.size; have hb4 := hbq; (have hb2 := Bx.ex he hb2); have tkO : True := trivial)
      | (clear tkO; (with_reducible apply W_bs1); ((conv => lhs; whnf) <;> exact rfl); (first | exact rfl | assumption | exact IntsK.one (by assumption) | exact Prs.one (by assumption) | exact OwnP.one (by assumption) | exact Own.one (by assumption) | exact Row.one (by assumption) | exact OwnR.one (by assumption)); decide; decide; exact rfl; exact rfl; ((simp only [lay, lset, List.replicate_succ, List.replicate_zero]) <;> exact rfl); intro b8 wq hbq he hnq; have hltq := Bx.lt hbq; have hsz := he.size; (have hin8 := IntsK.built (k := .i64) (xs := [4503599627370496]) (n := 1) hbq rfl (by decide)); (have hb2 := Bx.ex he hb2); (have hb4 := Bx.ex he hb4); have tkM : True := trivial)
      | (clear tkM; refine W_call (repeat_any _ 4503599627370496 (n + 1) _ hin8 (by omega)) rfl ?_; rintro vq wq ⟨ga, rfl, hga, hga0⟩ he; have hsz := he.size; have hlga := Bx.lt hga; (have hb2 := Bx.ex he hb2); (have hb4 := Bx.ex he hb4); have tkL : True := trivial)
      | (clear tkL; (with_reducible apply W_alloc); exact rfl; intro b5 wq hbq he hnq; have hltq := Bx.lt hbq; have hsz := he.size; (have hb2 := Bx.ex he hb2); (have hb4 := Bx.ex he hb4); (have hga := Bx.ex he hga); have tkK : True := trivial)
      | ((with_reducible apply W_op); exact rfl; exact rfl; exact r_indexBx4 (i := 0) rfl rfl (by omega))
      | (clear tkK; (with_reducible apply W_storeA); exact rfl; exact hbq; exact rfl; exact rfl; exact rfl; (repeat' (first | exact trivial | exact rfl | constructor)); intro wq hb5 hgq; have hsz := hgq.size; (have he : Ex w wq := Ex.of_grown (show Ex w _ from (by repeat (first | exact Ex.refl _ | assumption | (refine Ex.of_grown ?_ (by assumption) (by intro k hk; cases hk; omega)) | (refine Ex.trans ?_ (by assumption))))) hgq (by intro k hk; cases hk; omega)); (have hga := Bx.grown hga hgq (by simp; omega)); (have hb4 := Bx.grown hb4 hgq (by simp; omega)); (have hb2 := Bx.grown hb2 hgq (by simp; omega)); have tkJ : True := trivial)
      | (clear tkJ; refine W_store (b := ga) (o := 0 * 1) (v := .int .i64 0) rfl hga (by simp) rfl rfl ?_; intro wq hgs hgq; rw [← lset_eq, rw_zero (rs := rs)] at hgs; have hsz := hgq.size; (have he : Ex w wq := Ex.of_grown (show Ex w _ from (by assumption)) hgq (by intro k hk; cases hk; omega)); (have hb4 := Bx.grown hb4 hgq (by simp; omega)); (have hb2 := Bx.grown hb2 hgq (by simp; omega)); (have hb5 := Bx.grown hb5 hgq (by simp; omega)); have tkI : True := trivial)
      | (clear tkI; refine W_call (regulatorsOf_any pv rv vs _ (Vals.ex (show Ex w _ from (by repeat (first | exact Ex.refl _ | assumption | (refine Ex.of_grown ?_ (by assumption) (by intro k hk; cases hk; omega)) | (refine Ex.trans ?_ (by assumption))))) h) hp1 hx.one (by omega)) rfl ?_; rintro regs wB hregs heB; have hsz := heB.size; have hrg1 := OwnR.one hregs; have hregs' := hregs; (have hb4 := Bx.ex heB hb4); (have hb5 := Bx.ex heB hb5); (have hgs := Bx.ex heB hgs); have hlb5 := Bx.lt hb5; have hlb4 := Bx.lt hb4; (have hne5 : regs.ownBlock = none ∨ regs.ownBlock ≠ some b5 := (by cases hq : regs.ownBlock with | none => exact .inl rfl | some g => exact .inr (fun e => by have := (hregs.lt g hq).1; cases e; have := Bx.lt ‹Bx _ b5 _ _›; omega))); (have hewB : Ex w wB := (show Ex w _ from (by repeat (first | exact Ex.refl _ | assumption | (refine Ex.of_grown ?_ (by assumption) (by intro k hk; cases hk; omega)) | (refine Ex.trans ?_ (by assumption)))))); have tkH : True := trivial)
      | (have _ := tkH; (with_reducible apply W_op); exact rfl; exact rfl; exact r_lenR rfl (OwnR.row p2v_len hregs))
      | (clear tkH; (obtain ⟨B, hB⟩ : ∃ B, wB.heap.size = B := ⟨_, rfl⟩); (have hgw : w.heap.size ≤ ga := (by omega)); (have hg5 : ga ≠ b5 := (by omega)); (have hg4 : ga ≠ b4 := (by omega)); (have hw5 : w.heap.size ≤ b5 := (by omega)); (have hw4 : w.heap.size ≤ b4 := (by omega)); (have hrll := regL_len vs); refine c_loopG (fun (k : Nat) ps wr => ∃ i : Int, ∃ ga : Nat, ∃ sv : Value, ∃ us : List Value, ps = [(1, .int .i64 (n : Int)), (4, .pointer (some ⟨b4, 0, none⟩)), (5, .pointer (some ⟨b5, 0, none⟩)), (17, regs), (18, .int .i64 ((regL vs).length : Int)), (19, .int .i64 i)] ∧ i = k ∧ k ≤ vs.length ∧ Bx wr b5 [.slice (some ⟨ga, 0, none⟩) (n + 1) (n + 1), sv] 100 ∧ Bx wr ga (((List.range (n + 1)).map (rwTo rs k)).map (Value.int .i64)) 3 ∧ w.heap.size ≤ ga ∧ (ga ≠ b5 ∧ ga ≠ b4) ∧ OwnV 30 w.heap.size wr sv us ∧ ShB wr 3 B sv us n rs k ∧ (∀ g, sv.ownBlock = some g → B ≤ g) ∧ wB.grownBy wr (some b5) ∧ Ex w wr) (fun k => vs.length - k) 0 _ ⟨_, _, _, _, rfl, rfl, Nat.zero_le _, hb5, hgs, hgw, ⟨hg5, hg4⟩, OwnV.nil _ _ _, ShB.nil _ _ _ _ _, (fun g hg => by cases hg), Ex.grownTo (Ex.refl wB) _, hewB⟩ ⟨rfl, rfl, rfl, rfl, rfl, rfl, trivial⟩ (by ((conv => lhs; whnf) <;> exact rfl)) (by ((conv => lhs; whnf) <;> exact rfl)) ?_; rintro J hJ k u ps wr ⟨i, ga, sv, us, rfl, rfl, hk, hb5, hga, hgw, ⟨hg5, hg4⟩, hsv, hsh, hsB, hG, he⟩; have hsz := he.size; have tkG : True := trivial)
      | (clear tkG; (have hsv1 := hsv.one); (have hGs := hG.size); (have hlg := Bx.lt hga); (have hregw := OwnR.kept hregs' hG hne5); (by_cases hkv : k < vs.length; (have hrg := regL_get hkv); (have hpk := hx.2 k hkv); (have hpk1 := hpk.one); (obtain ⟨lk, hlk⟩ : ∃ q, vs.getD k undef = q := ⟨_, rfl⟩); rw [hlk] at hrg hpk hpk1; (have hble := hb k (by omega)); (have hle := fun w2 (e : Ex w w2) => least_any lk (rs.getD k []) n w2 (Prs.ex e hpk) hble (by omega)); (have hbds := (bErr_inv hble).2)); all_goals (have tkF : True := trivial))
      | (have _ := tkF; (with_reducible apply c_cond_dec); exact rfl; intro _; rotate_left 1; intro _; (all_goals (try (exfalso; (focus (omega; done))))))
      | (have _ := tkF; refine W_indexRw (f := p2v) (n := 2) (v := regs) (xs := regL vs) (i := k) (undef, 0) p2v_len (by decide) rfl (OwnR.row p2v_len (OwnR.ex (show Ex wr _ from (by repeat (first | exact Ex.refl _ | assumption | (refine Ex.of_grown ?_ (by assumption) (by intro k hk; cases hk; omega)) | (refine Ex.trans ?_ (by assumption))))) hregw)) rfl (by omega) ?_; intro pb po hpc; rw [hrg] at hpc; (have hpc : Cells wr ⟨pb, po, none⟩ [lk, .int .i64 0] := hpc))
      | (have _ := tkF; (with_reducible apply W_op); exact rfl; exact rfl; exact r_loadA rfl hpc rfl)
      | (refine c_mixX (id := 6) [] [0, 1, 2, 3] 3 #[true, true, true, true, false, false, false] [false, false, false, false, false, false, false] [true, true, true, true, false, false, false] (by kernel_rfl) (by kernel_rfl) (by kernel_rfl) (by dsimp only [sel] <;> exact rfl) (by dsimp only [sel] <;> exact rfl) ?_)
      | (have _ := tkF; refine W_call (hle _ (by repeat (first | assumption | exact Ex.refl _ | (refine Ex.trans ?_ (by assumption)) | (refine Ex.of_grown ?_ (by assumption) (by intro k hk; cases hk; omega))))) rfl ?_; rintro lvv wl hown hel; have hsz := hel.size; have hlv1 := OwnR.one hown; (have hex1 : Ex wr wl := (by repeat (first | exact Ex.refl _ | assumption | (refine Ex.of_grown ?_ (by assumption) (by intro k hk; cases hk; omega)) | (refine Ex.trans ?_ (by assumption))))))
      | (have _ := tkF; refine W_callR (with_any w _ (show Ex w _ from (by repeat (first | exact Ex.refl _ | assumption | (refine Ex.of_grown ?_ (by assumption) (by intro k hk; cases hk; omega)) | (refine Ex.trans ?_ (by assumption))))) ga n (rwTo rs k) (leN (rs.getD k [])) sv _ us (bestL (packF (rs.getD k [])) highC n) (Bx.ex (show Ex wr _ from (by repeat (first | exact Ex.refl _ | assumption | (refine Ex.of_grown ?_ (by assumption) (by intro k hk; cases hk; omega)) | (refine Ex.trans ?_ (by assumption))))) hga) (OwnR.row p3_len (OwnR.ex (show Ex wl _ from (by repeat (first | exact Ex.refl _ | assumption | (refine Ex.of_grown ?_ (by assumption) (by intro k hk; cases hk; omega)) | (refine Ex.trans ?_ (by assumption))))) hown)) (bestL_len _ _ _) (fun j hj => by rw [bestL_get _ _ _ _ (by omega)]; rfl) (OwnV.ex (show Ex wr _ from (by repeat (first | exact Ex.refl _ | assumption | (refine Ex.of_grown ?_ (by assumption) (by intro k hk; cases hk; omega)) | (refine Ex.trans ?_ (by assumption))))) hsv) (by have := hsh.1; omega) hn (fun j _ => rw_bd hb k (by omega) j) (fun j hj => by have := le_bd hbds j; omega)) rfl ?_; rintro vq wq ⟨⟨g1, g2, sv2, rfl, hg1, hg2, hsv2, ⟨hw1, hw2, hne12⟩, hblk, hgb⟩, hex⟩; (obtain ⟨wx, hwx, hgb, hw1, hw2, hblk⟩ : ∃ wx, Ex wr wx ∧ wx.grownBy wq sv.ownBlock ∧ wx.heap.size ≤ g1 ∧ wx.heap.size ≤ g2 ∧ (∀ g, sv2.ownBlock = some g → g ≠ g1 ∧ g ≠ g2 ∧ (sv.ownBlock = some g ∨ wx.heap.size ≤ g)) := ⟨_, (by repeat (first | exact Ex.refl _ | assumption | (refine Ex.of_grown ?_ (by assumption) (by intro k hk; cases hk; omega)) | (refine Ex.trans ?_ (by assumption)))), hgb, hw1, hw2, hblk⟩); have hwxs := hwx.size; have hlb5r := Bx.lt hb5; have tkE : True := trivial)
      | (clear tkE; (with_reducible apply W_storeA); exact rfl; exact (Bx.grown (Bx.ex hwx hb5) hgb (fun e => by have := hsB b5 e.symm; omega)); exact rfl; exact rfl; exact rfl; (repeat' (first | exact trivial | exact rfl | (exact hsv2.one) | constructor)); intro wz hb5z hgz; have hsz := hgz.size; (have hg1z : Bx wz g1 (((List.range (n + 1)).map (rwTo rs (k + 1))).map (Value.int .i64)) 3 := (by rw [rw_succ]; exact Bx.grown hg1 hgz (by simp; omega))); (have hsvz := OwnV.keptB hsv2 hgz (by cases hq : sv2.ownBlock with | none => exact .inl rfl | some g => exact .inr (fun e => by cases e; rcases (hblk b5 hq).2.2 with a | a; (have := hsB b5 a; omega); omega))); (have hshz := ShB.next hsh hwx hgb hgz (by omega) (by rw [sh_eq]; exact hg2) (by omega) hw2 (fun g hg => ⟨(hblk g hg).2.1, (hblk g hg).2.2⟩)); (have hsBz : ∀ g, sv2.ownBlock = some g → B ≤ g := (fun g hg => by rcases (hblk g hg).2.2 with a | a; exact hsB g a; omega)); (have hGz := grow4 hG hwx hgb hgz (fun g hg => by have := hsB g hg; omega)); (have hez : Ex w wz := Ex.of_grown hex hgz (by intro k hk; cases hk; omega)))
      | ((first | ((with_reducible apply W_op); exact rfl; exact rfl) | ((with_reducible apply WQ_op); exact rfl; exact rfl; intro wq he) | ((with_reducible apply WM_op); exact rfl; exact rfl; intro wq he) | ((with_reducible apply WB_op); exact rfl; exact rfl; intro wq)); (first | ((with_reducible apply r_move); ((conv => lhs; whnf) <;> exact rfl)) | ((with_reducible apply r_fieldAddr); exact rfl) | ((with_reducible apply r_load); exact rfl; exact rfl; (first | assumption | exact (Bx.cell (by repeat (first | assumption | ((with_reducible apply Bx.grownS); assumption; (first | omega | exact Bx.ne (by assumption) (by omega))) | ((with_reducible apply Bx.below); assumption; omega) | ((with_reducible apply Bx.ex); assumption))) _).trans rfl | exact Ex.cell (by assumption) (by assumption))) | ((with_reducible apply r_loadA); exact rfl; (first | assumption | exact Bx.cells (by repeat (first | assumption | ((with_reducible apply Bx.grownS); assumption; (first | omega | exact Bx.ne (by assumption) (by omega))) | ((with_reducible apply Bx.below); assumption; omega) | ((with_reducible apply Bx.ex); assumption))) | exact Cells.ex (by assumption) (by assumption)); exact rfl) | ((with_reducible apply r_lss); exact rfl; exact rfl) | ((with_reducible apply r_add); exact rfl; exact rfl; omega) | ((with_reducible apply r_build1); ((conv => lhs; whnf) <;> exact rfl); (first | exact rfl | assumption | exact IntsK.one (by assumption) | exact Prs.one (by assumption) | exact OwnP.one (by assumption) | exact Own.one (by assumption) | exact Row.one (by assumption) | exact OwnR.one (by assumption)); exact rfl; exact rfl; ((simp only [lay, lset, List.replicate_succ, List.replicate_zero]) <;> exact rfl)) | ((with_reducible apply r_loadSub); exact rfl; (focus ((repeat (first | assumption | ((with_reducible apply Bx.grownS); assumption; (first | omega | exact Bx.ne (by assumption) (by omega))) | ((with_reducible apply Bx.below); assumption; omega) | ((with_reducible apply Bx.ex); assumption))); done)); ((simp only [Nat.add_zero, Nat.zero_add, Nat.reduceAdd, List.drop_zero, List.drop_succ_cons, List.take_succ_cons, List.take_zero]) <;> exact rfl); exact rfl)))
      | ((with_reducible (show Exit.then _ _ _ _ _)); refine n_roundG (k + 1) (hJ _ _ _ _ ⟨_, g1, _, _, rfl, by omega, by omega, hb5z, hg1z, by omega, ⟨by omega, by omega⟩, hsvz, hshz, hsBz, hGz, hez⟩ ⟨rfl, rfl, rfl, rfl, rfl, rfl, trivial⟩ rfl) (by omega))
      | (refine XT_one (t := 4) (s := false) (listed := #[true, true, true, true, false, false, false]) (listed' := #[true, true, true, true, true, false, false]) (by kernel_rfl) rfl (by kernel_rfl) (by kernel_rfl) ?_)
      | (refine XT_one (t := 5) (s := true) (listed := #[true, true, true, true, true, false, false]) (listed' := #[true, true, true, true, true, true, false]) (by kernel_rfl) rfl (by kernel_rfl) (by kernel_rfl) ?_)
      | (refine XT_one (t := 6) (s := true) (listed := #[true, true, true, true, true, true, false]) (listed' := #[true, true, true, true, true, true, true]) (by kernel_rfl) rfl (by kernel_rfl) (by kernel_rfl) ?_)
      | (with_reducible apply XB_nil)
      | ((with_reducible apply XM_nil); intro wq he; have hsz := he.size)
      | ((with_reducible apply XT_nil); kernel_rfl)
      | (with_reducible apply x_sink)
      | ((with_reducible apply x_keep); (focus ((repeat (first | assumption | exact Ex.refl _ | (refine Ex.trans ?_ (by assumption)) | (refine Ex.of_grown ?_ (by assumption) (by intro k hk; cases hk; omega)))); done)); intro wq he; have hsz := he.size)
      | (with_reducible apply W_nil)
      | ((with_reducible apply W_alloc); exact rfl; intro bq wq hbq he hnq; have hltq := Bx.lt hbq; have hsz := he.size)
      | ((with_reducible apply W_storeA); exact rfl; (focus ((repeat (first | assumption | ((with_reducible apply Bx.grownS); assumption; (first | omega | exact Bx.ne (by assumption) (by omega))) | ((with_reducible apply Bx.below); assumption; omega) | ((with_reducible apply Bx.ex); assumption))); done)); exact rfl; exact rfl; exact rfl; (repeat' (first | exact trivial | (first | exact rfl | assumption | exact IntsK.one (by assumption) | exact Prs.one (by assumption) | exact OwnP.one (by assumption) | exact Own.one (by assumption) | exact Row.one (by assumption) | exact OwnR.one (by assumption)) | constructor)); intro wq hbq hgq; have he : Ex w wq := (by repeat (first | assumption | exact Ex.refl _ | (refine Ex.trans ?_ (by assumption)) | (refine Ex.of_grown ?_ (by assumption) (by intro k hk; cases hk; omega)))); have hsz := he.size; have hgz := hgq.size)
      | (with_reducible apply c_seq)
      | ((with_reducible apply c_region); kernel_rfl)
      | (with_reducible apply n_nq)
      | (with_reducible apply c_block)
      | (with_reducible apply c_skip)
      | (with_reducible apply c_ret)
      | (with_reducible apply c_exit)
      | (with_reducible apply n_then)
      | (with_reducible apply n_block)
      | (with_reducible apply e_then)
      | (with_reducible apply e_block)
      | ((with_reducible apply p_retc); exact rfl; exact rfl; exact inferInstance; exact inferInstance; exact rfl; (focus ((repeat (first | assumption | ((with_reducible apply Bx.grownS); assumption; (first | omega | exact Bx.ne (by assumption) (by omega))) | ((with_reducible apply Bx.below); assumption; omega) | ((with_reducible apply Bx.ex); assumption))); done)); exact rfl; refine ⟨_, rfl, ?_, (by repeat (first | assumption | exact Ex.refl _ | (refine Ex.trans ?_ (by assumption)) | (refine Ex.of_grown ?_ (by assumption) (by intro k hk; cases hk; omega))))⟩))
  all_goals first
    | exact ⟨ga, sv, us, B, rfl, (by rw [show rs.length = k by omega]; exact Bx.grown (Bx.ex (show Ex wr _ from (by repeat (first | exact Ex.refl _ | assumption | (refine Ex.of_grown ?_ (by assumption) (by intro k hk; cases hk; omega)) | (refine Ex.trans ?_ (by assumption))))) hga) hgq (by simp; omega)), hgw, OwnV.vals (OwnV.keptB (OwnV.ex (show Ex wr _ from (by repeat (first | exact Ex.refl _ | assumption | (refine Ex.of_grown ?_ (by assumption) (by intro k hk; cases hk; omega)) | (refine Ex.trans ?_ (by assumption))))) hsv) hgq (by cases hq : sv.ownBlock with | none => exact .inl rfl | some g => exact .inr (fun e => by cases e; have := hsB b4 hq; omega))), (by rw [show rs.length = k by omega]; exact ShB.kept (ShB.ex (show Ex wr _ from (by repeat (first | exact Ex.refl _ | assumption | (refine Ex.of_grown ?_ (by assumption) (by intro k hk; cases hk; omega)) | (refine Ex.trans ?_ (by assumption))))) hsh) hgq (by omega))⟩
    | trace_state
end Go.Proofs.Ytlphfobpheefkaa
