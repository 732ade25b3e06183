/-
  (heavy) (rows) What this text proves: the law PumpOrder returns true. Conditions: the values read as lists.
-/
import Derived.Test.YtlphfobpheefkaaVBl
import Derived.Test.YtlphfobpheefkaaVBk
import Derived.Test.YtlphfobpheefkaaVBj
set_option linter.unusedVariables false
set_option linter.unusedSimpArgs false
namespace Go.Pv
open Go.RowKit Go.Sort
theorem ptErr_ok {pls rs : List (List (Int × Int))} (h1 : 1 ≤ pls.length ∧ pls.length ≤ 3) (h2 : 1 ≤ rs.length ∧ rs.length ≤ 3) (hp : ∀ i, i < pls.length → bErr (pls.getD i []) = 0) (hr : ∀ i, i < rs.length → bErr (rs.getD i []) = 0) {n : Nat} (hn : n ≤ 200) : ptErr pls rs (n : Int) = 0 := by
  have hl : lsErr (pls ++ rs) = 0 := lsErr_zero fun i hi => by
    by_cases h3 : i < pls.length
    · have e1 : (pls ++ rs).getD i [] = pls.getD i [] := by simp only [List.getD]; rw [List.getElem?_append_left h3]
      rw [e1]; exact hp i h3
    · have e1 : (pls ++ rs).getD i [] = rs.getD (i - pls.length) [] := by simp only [List.getD]; rw [List.getElem?_append_right (by omega)]
      rw [e1]; refine hr _ ?_
      simp at hi; omega
  have hq : pErr pls rs = 0 := by
    unfold pErr
    rw [if_neg (by omega), if_neg (by omega)]; exact hl
  unfold ptErr
  rw [if_pos hq, if_pos (by omega)]
/-- The numbers of a plant without an error. -/
def PN (pls rs : List (List (Int × Int))) (n : Nat) (q d o k e : Int) : Prop := ptErr pls rs (n : Int) = 0 ∧ rwTo rs rs.length n = q ∧ dropL pls rs n = (d, o) ∧ (if dlErr pls rs (n : Int) = 0 then (delayL pls rs n : Int) else 0) = k ∧ dlErr pls rs (n : Int) = e
theorem drop_bd {pls rs : List (List (Int × Int))} (hp : ∀ i, i < pls.length → bErr (pls.getD i []) = 0) (hr : ∀ i, i < rs.length → bErr (rs.getD i []) = 0) (hl : pls.length ≤ 3) {n : Nat} (hn : n ≤ 200) : 0 ≤ (dropL pls rs n).1 ∧ (dropL pls rs n).1 ≤ 3000000000 := by
  refine ⟨drop_pos _ _ _, ?_⟩
  rcases drop_is pls rs n with e | ⟨j, hj, e⟩
  · omega
  · have k1 := dmTo_small hp hl (Nat.le_refl _) (show j ≤ 900 by omega)
    have k2 := rw_bd hr rs.length (Nat.le_refl _) j
    have k3 : dmN pls j = dmTo pls pls.length j := rfl
    omega
theorem order_nums {pls : List (List (Int × Int))} {A B : List (Int × Int)} (hl : 1 ≤ pls.length ∧ pls.length ≤ 3) (hp : ∀ i, i < pls.length → bErr (pls.getD i []) = 0) (ha : bErr A = 0) (hb : bErr B = 0) {n : Nat} (hn : n ≤ 200) :
    ∃ q d o k e q1 d1 o1 k1 e1 q2 d2 o2 k2 e2 : Int, (PN pls [A, B] n q d o k e ∧ PN pls [B, A] n q d o k e) ∧ (PN pls [A] n q1 d1 o1 k1 e1 ∧ PN pls [B] n q2 d2 o2 k2 e2) ∧ (d1 ≤ d ∧ d2 ≤ d ∧ d ≤ d1 + d2) ∧ (0 ≤ d1 ∧ d1 ≤ 3000000000) ∧ 0 ≤ d2 ∧ d2 ≤ 3000000000 := by
  have two : ∀ {X Y : List (Int × Int)}, bErr X = 0 → bErr Y = 0 → ∀ i, i < [X, Y].length → bErr ([X, Y].getD i []) = 0 := fun hx hy i hi => by
    match i, hi with
    | 0, _ => exact hx
    | 1, _ => exact hy
  have one : ∀ {X : List (Int × Int)}, bErr X = 0 → ∀ i, i < [X].length → bErr ([X].getD i []) = 0 := fun hx i hi => by
    match i, hi with
    | 0, _ => exact hx
  have p12 := ptErr_ok (rs := [A, B]) hl ⟨by simp, by simp⟩ hp (two ha hb) hn
  have p21 := ptErr_ok (rs := [B, A]) hl ⟨by simp, by simp⟩ hp (two hb ha) hn
  have p1 := ptErr_ok (rs := [A]) hl ⟨by simp, by simp⟩ hp (one ha) hn
  have p2 := ptErr_ok (rs := [B]) hl ⟨by simp, by simp⟩ hp (one hb) hn
  obtain ⟨⟨o1, o2, o3⟩, l1, l2, l3⟩ := order_all hp ha hb hn
  have e12 : dlErr pls [B, A] (n : Int) = dlErr pls [A, B] (n : Int) := by
    unfold dlErr
    rw [p12, p21]
    simp only [Int.toNat_natCast, o3]
  refine ⟨_, _, _, _, _, _, _, _, _, _, _, _, _, _, _, ⟨⟨p12, rfl, rfl, rfl, rfl⟩, p21, o1.symm, o2.symm, by rw [e12, o3], e12⟩, ⟨⟨p1, rfl, rfl, rfl, rfl⟩, p2, rfl, rfl, rfl, rfl⟩, ⟨l1, l2, l3⟩, drop_bd hp (one ha) hl.2 hn, drop_bd hp (one hb) hl.2 hn⟩
theorem len_two {α : Type} {l : List α} (h : l.length = 2) : ∃ a b, l = [a, b] := by
  match l, h with
  | [a, b], _ => exact ⟨a, b, rfl⟩
theorem Vals.take {w : World} {v : Value} {xs : List Value} (hv : Vals w v xs) {j : Nat} (hle : j ≤ xs.length) : Vals w (takeV v j) (xs.take j) := by
  unfold Vals Sl at hv ⊢
  obtain ⟨h0, a, cap, rfl, hc, hm, hall⟩ := hv
  have hl : (xs.take j).length = j := by simp; omega
  refine ⟨by omega, a, cap, by rw [hl]; rfl, by omega, by omega, fun i hi => ?_⟩
  rw [hl] at hi
  obtain ⟨p, u, e1, e2, e3⟩ := hall i (by omega)
  refine ⟨p, u, e1, e2, ?_⟩
  simp only [List.getElem_take]
  exact e3
theorem Vals.drop {w : World} {v : Value} {xs : List Value} (hv : Vals w v xs) {i : Nat} (hle : i ≤ xs.length) : Vals w (partV v i xs.length) (xs.drop i) := by
  unfold Vals Sl at hv ⊢
  obtain ⟨h0, a, cap, rfl, hc, hm, hall⟩ := hv
  have hl : (xs.drop i).length = xs.length - i := by simp
  refine ⟨by omega, (if cap = i then a else a.map (·.add i)), cap - i, by rw [hl]; rfl, by omega, by omega, fun q hq => ?_⟩
  rw [hl] at hq
  obtain ⟨b, u, rfl, e2, e3⟩ := hall (i + q) (by omega)
  refine ⟨b.add i, u, by rw [if_neg (by omega)]; rfl, by rw [Addr.add_add]; exact e2, ?_⟩
  simp only [List.getElem_drop]
  exact e3
section
variable {P : Program} {l : St} {w : World} {od : Option Nat} {ty : TypeId} {pos : String} {af : Array Edge}
theorem r_takeVs {x hx2 : Operand} {T e : TypeId} {v : Value} {i m : Nat} {k : IntKind} {z : Value} {b : Nat} {xs : List Value} [h : Und P T (.slice e)] [hs : Sz P e z m b] (hx : ev l x = v) (hv : Vals w v xs) (hi : ev l hx2 = .int k (i : Int)) (hle : i ≤ xs.length) :
    Runs P ⟨od, .slice T x none (some hx2) none, ty, pos, af, none⟩ l w (takeV v i) := by
  unfold Vals Sl at hv
  obtain ⟨_, a, cap, rfl, hc, hm, _⟩ := hv
  have h1 : i ≤ cap := by omega
  cases a <;> simp [Runs, execOp, hx, hi, Instr.sliceAt, Instr.slice, Instr.sliceBounds, Instr.sliceBound, asIntOf, h.run, hs.run, h1, takeV, Addr.add]
theorem r_dropVs {x lo : Operand} {T e : TypeId} {v : Value} {i : Nat} {k : IntKind} {z : Value} {b : Nat} {xs : List Value} [h : Und P T (.slice e)] [hs : Sz P e z 1 b] (hx : ev l x = v) (hv : Vals w v xs) (hi : ev l lo = .int k (i : Int)) (h1 : i ≤ xs.length) :
    Runs P ⟨od, .slice T x (some lo) none none, ty, pos, af, none⟩ l w (partV v i xs.length) := by
  unfold Vals Sl at hv
  obtain ⟨_, a, cap, rfl, hc, hm, _⟩ := hv
  have h2 : i ≤ cap := by omega
  simp [Runs, execOp, hx, hi, Instr.sliceAt, Instr.slice, Instr.sliceBounds, Instr.sliceBound, asIntOf, h.run, hs.run, h1, h2, hc, partV]
end
end Go.Pv
namespace Go.Proofs.Ytlphfobpheefkaa
open Go.Pv Go.RowKit Go.Sort
set_option maxHeartbeats 8000000
set_option maxRecDepth 20000
theorem plant_calls {pv rv : Value} {us vs : List Value} {pls rs : List (List (Int × Int))} {n : Nat} {w : World} {q d o k e : Int} (h : Vals w pv us) (hx : BLs w us pls) (h2 : Vals w rv vs) (hx2 : BLs w vs rs) (hn : PN pls rs n q d o k e) :
    (∀ w2, Ex w w2 → Ret Try.prog 35 [.agg #[pv, rv], .int .i64 n] w2 fun r _ => r = .tuple #[.int .i64 q, .int .i64 0]) ∧ (∀ w2, Ex w w2 → Ret Try.prog 31 [.agg #[pv, rv], .int .i64 n] w2 fun r _ => r = .tuple #[.int .i64 d, .int .i64 o, .int .i64 0]) ∧ ∀ w2, Ex w w2 → Ret Try.prog 32 [.agg #[pv, rv], .int .i64 n] w2 fun r _ => r = .tuple #[.int .i64 k, .int .i64 e] := by
  obtain ⟨hk, hq, hd, hdl, he⟩ := hn
  refine ⟨fun w2 ex => ?_, fun w2 ex => ?_, fun w2 ex => ?_⟩
  · have := Row_any pv rv us vs pls rs n w2 (Vals.ex ex h) (BLs.ex ex hx) (Vals.ex ex h2) (BLs.ex ex hx2)
    simp only [hk, if_true, Int.toNat_natCast, hq] at this
    exact this
  · have := Drop_any pv rv us vs pls rs n w2 (Vals.ex ex h) (BLs.ex ex hx) (Vals.ex ex h2) (BLs.ex ex hx2)
    simp only [hk, if_true, Int.toNat_natCast, hd] at this
    exact this
  · have := Delay_any pv rv us vs pls rs n w2 (Vals.ex ex h) (BLs.ex ex hx) (Vals.ex ex h2) (BLs.ex ex hx2)
    simp only [Int.toNat_natCast] at this
    rw [hdl, he] at this
    exact this
theorem oneTwo_ok {d : Bool} {X Y : List (Int × Int)} (hx : bErr X = 0) (hy : bErr Y = 0) : (1 ≤ (oneTwo d X Y).length ∧ (oneTwo d X Y).length ≤ 3) ∧ ∀ i, i < (oneTwo d X Y).length → bErr ((oneTwo d X Y).getD i []) = 0 := by
  cases d with
  | false =>
    refine ⟨⟨Nat.le_refl _, by simp [oneTwo]⟩, fun i hi => ?_⟩
    match i, hi with
    | 0, _ => exact hx
  | true =>
    refine ⟨⟨by simp [oneTwo], by simp [oneTwo]⟩, fun i hi => ?_⟩
    match i, hi with
    | 0, _ => exact hx
    | 1, _ => exact hy
theorem lawOrder_any (p0 p1 r0 r1 : Value) (P0 P1 R0 R1 : List (Int × Int)) (d0 d1 : Bool) (tn : Int) (w : World) (h0 : Prs8 w p0 P0) (h1 : Prs8 w p1 P1) (h2 : Prs8 w r0 R0) (h3 : Prs8 w r1 R1) (o0 : SetOk P0) (o1 : SetOk P1) (o2 : SetOk R0) (o3 : SetOk R1) (ht : 0 ≤ tn ∧ tn ≤ 255) :
    Ret Try.prog 9 [.agg #[p0, p1, r0, r1, .bool d0, .bool d1], .int .u8 tn] w fun r _ => r = .bool true := by
  have hv0 := h0.one
  have hv1 := h1.one
  have hv2 := h2.one
  have hv3 := h3.one
  obtain ⟨n, hn⟩ : ∃ n : Nat, tn % 40 = n := ⟨(tn % 40).toNat, by omega⟩
  obtain ⟨hol, hop⟩ := oneTwo_ok (d := d0) (setB_ok o0) (setB_ok o1)
  have hbA := setB_ok o2
  have hbB := setB_ok o3
  have hem := fun w2 (e : Ex w w2) => emade_any p0 p1 r0 r1 P0 P1 R0 R1 d0 true w2 (Prs8.ex e h0) (Prs8.ex e h1) (Prs8.ex e h2) (Prs8.ex e h3) o0 o1 o2 o3
  obtain ⟨pls, hpls⟩ : ∃ q, q = oneTwo d0 (setB P0) (setB P1) := ⟨_, rfl⟩
  obtain ⟨A, hA⟩ : ∃ q, q = setB R0 := ⟨_, rfl⟩
  obtain ⟨B, hB⟩ : ∃ q, q = setB R1 := ⟨_, rfl⟩
  rw [← hpls] at hem hol hop
  rw [← hA] at hem hbA
  rw [← hB] at hem hbB
  obtain ⟨q, d, o, k, e, q1, d1', o1', k1, e1, q2, d2, o2', k2, e2, ⟨n12, n21⟩, ⟨n1, n2⟩, ⟨l1, l2, l3⟩, lb1, lb2⟩ := order_nums hol hop hbA hbB (n := n) (by omega)
  clear hpls hA hB
  have tkA : True := trivial
  refine ret_of_c Try.func9 rfl Try.ntmps9 (Nat.le_of_ble_eq_true rfl) (by dsimp only [ini, Nat.reduceAdd] <;> exact rfl) ?_
  repeat' (first
      | ((with_reducible apply W_split); exact rfl; exact rfl; intro _; rotate_left 1; intro hsx; (all_goals (try (exfalso; (focus (first | exact hsx rfl | omega; done))))))
      | ((with_reducible apply c_cond_dec); exact rfl; intro _; rotate_left 1; intro _; (all_goals (try (exfalso; (focus (omega; done))))))
      | (clear tkA; refine W_call (hem _ (show Ex w _ from (by repeat (first | exact Ex.refl _ | assumption | (refine Ex.of_grown ?_ (by assumption) (by intro k hk; cases hk; omega)) | (refine Ex.trans ?_ (by assumption)))))) rfl ?_; rintro ev wv ⟨pv, rv, us, vs, rfl, hpe, hre⟩ hev; have hsz := hev.size; (obtain ⟨a, b, rfl⟩ : ∃ a b, vs = [a, b] := len_two (hre.2.1.trans rfl)); (have hV := hpe.vals); (have hW := hre.vals); (have hpv1 := hV.1.one); (have hrv1 := hW.1.one); (have hA := (hre.2.2 0 (by simp)).prs); (have hB := (hre.2.2 1 (by simp)).prs); (have ha1 := hA.one); (have hb1 := hB.one); (have htk := Vals.take hW.1 (show 1 ≤ [a, b].length by simp)); (have htk1 := htk.one); (have hdr := Vals.drop hW.1 (show 1 ≤ [a, b].length by simp)); (have hdr1 := hdr.one); (have c12 := plant_calls hV.1 hV.2 hW.1 hW.2 n12); (have c1 := plant_calls hV.1 hV.2 htk (BLs.one1 hA) n1); (have c2 := plant_calls hV.1 hV.2 hdr (BLs.one1 hB) n2); have tkB : True := trivial; have tkC : True := trivial; have tkD : True := trivial)
      | (have _ := tkB; (with_reducible apply W_op); exact rfl; exact rfl; first | exact r_conv8 rfl (by omega) | exact r_remE rfl rfl (by omega) (by omega))
      | (clear tkB; refine c_cutG (x := .region 4 _ _) (n := 167) (ds := []) (fun ps2 wr2 => ∃ (b5 b7 g7 : Nat), ps2 = [(1, Value.int .u8 tn), (4, .bool false), (5, .pointer (some ⟨b5, 0, none⟩)), (6, .int .i64 (n : Int)), (7, .pointer (some ⟨b7, 0, none⟩))] ∧ Bx wr2 b5 [pv, rv] 55 ∧ Bx wr2 b7 [pv, .slice (some ⟨g7, 0, none⟩) 2 2] 55 ∧ Bx wr2 g7 [b, a] 22 ∧ Ex wv wr2) (fun J0 hJ0 => ?_) (fun u2 ps2 wp hI2 => ?_); rotate_left 1; (obtain ⟨b5, b7, g7, rfl, hx5, hx7, hg7, hep⟩ := hI2); (have hsz := hep.size); (have c21 := plant_calls (w := wp) (Vals.ex hep hV.1) (BLs.ex hep hV.2) (Vals.built (n := 2) hg7 rfl (by simp)) (BLs.two (Prs.ex hep hB) (Prs.ex hep hA)) n21); have tkE : True := trivial)
      | (have _ := tkD; refine WM_indexVals (i := 1) (v := rv) (xs := [a, b]) rfl (Vals.ex (show Ex wv _ from (by repeat (first | exact Ex.refl _ | assumption | (refine Ex.of_grown ?_ (by assumption) (by intro k hk; cases hk; omega)) | (refine Ex.trans ?_ (by assumption))))) hW.1) rfl (by simp) ?_; intro pb hpb)
      | (have _ := tkD; refine WM_indexVals (i := 0) (v := rv) (xs := [a, b]) rfl (Vals.ex (show Ex wv _ from (by repeat (first | exact Ex.refl _ | assumption | (refine Ex.of_grown ?_ (by assumption) (by intro k hk; cases hk; omega)) | (refine Ex.trans ?_ (by assumption))))) hW.1) rfl (by simp) ?_; intro pb hpb)
      | (have _ := tkD; (with_reducible apply WM_op); exact rfl; exact rfl; (intro wq he; exact r_load rfl rfl (Ex.cell he hpb)))
      | (clear tkC; (with_reducible apply W_alloc); exact rfl; intro b5 wq hbq he hnq; have hltq := Bx.lt hbq; have hsz := he.size)
      | (have _ := tkD; (with_reducible apply W_alloc); exact rfl; intro b7 wq hbq he hnq; have hltq := Bx.lt hbq; have hsz := he.size)
      | (have _ := tkD; (with_reducible apply W_bs2); ((conv => lhs; whnf) <;> exact rfl); ((conv => lhs; whnf) <;> exact rfl); (first | exact rfl | assumption | exact IntsK.one (by assumption) | exact Prs.one (by assumption) | exact OwnP.one (by assumption) | exact Own.one (by assumption) | exact Row.one (by assumption) | exact OwnR.one (by assumption)); (first | exact rfl | assumption | exact IntsK.one (by assumption) | exact Prs.one (by assumption) | exact OwnP.one (by assumption) | exact Own.one (by assumption) | exact Row.one (by assumption) | exact OwnR.one (by assumption)); decide; decide; exact rfl; exact rfl; ((simp only [lay, lset, List.replicate_succ, List.replicate_zero]) <;> exact rfl); intro g7 wq hbq he hnq; have hltq := Bx.lt hbq; have hsz := he.size; have hg7 : Bx wq g7 [b, a] 22 := hbq)
      | (have _ := tkD; refine n_cutG (hJ0 _ _ _ ⟨b5, b7, g7, rfl, (by repeat (first | assumption | ((with_reducible apply Bx.grownS); assumption; (first | omega | exact Bx.ne (by assumption) (by omega))) | ((with_reducible apply Bx.below); assumption; omega) | ((with_reducible apply Bx.ex); assumption))), (by repeat (first | assumption | ((with_reducible apply Bx.grownS); assumption; (first | omega | exact Bx.ne (by assumption) (by omega))) | ((with_reducible apply Bx.below); assumption; omega) | ((with_reducible apply Bx.ex); assumption))), (by repeat (first | assumption | ((with_reducible apply Bx.grownS); assumption; (first | omega | exact Bx.ne (by assumption) (by omega))) | ((with_reducible apply Bx.below); assumption; omega) | ((with_reducible apply Bx.ex); assumption))), (show Ex wv _ from (by repeat (first | exact Ex.refl _ | assumption | (refine Ex.of_grown ?_ (by assumption) (by intro k hk; cases hk; omega)) | (refine Ex.trans ?_ (by assumption)))))⟩ ⟨rfl, rfl, rfl, congrArg (Value.int .i64) hn, rfl, trivial⟩ rfl))
      | (have _ := tkE; refine W_callv (c12.1 _ (show Ex wv _ from (by repeat (first | exact Ex.refl _ | assumption | (refine Ex.of_grown ?_ (by assumption) (by intro k hk; cases hk; omega)) | (refine Ex.trans ?_ (by assumption)))))) rfl (fun wq he => ?_); have hsz := he.size)
      | (have _ := tkE; refine W_callv (c21.1 _ (show Ex wp _ from (by repeat (first | exact Ex.refl _ | assumption | (refine Ex.of_grown ?_ (by assumption) (by intro k hk; cases hk; omega)) | (refine Ex.trans ?_ (by assumption)))))) rfl (fun wq he => ?_); have hsz := he.size)
      | (have _ := tkE; refine W_callv (c12.2.1 _ (show Ex wv _ from (by repeat (first | exact Ex.refl _ | assumption | (refine Ex.of_grown ?_ (by assumption) (by intro k hk; cases hk; omega)) | (refine Ex.trans ?_ (by assumption)))))) rfl (fun wq he => ?_); have hsz := he.size)
      | (have _ := tkE; refine W_callv (c21.2.1 _ (show Ex wp _ from (by repeat (first | exact Ex.refl _ | assumption | (refine Ex.of_grown ?_ (by assumption) (by intro k hk; cases hk; omega)) | (refine Ex.trans ?_ (by assumption)))))) rfl (fun wq he => ?_); have hsz := he.size)
      | (have _ := tkE; refine W_callv (c12.2.2 _ (show Ex wv _ from (by repeat (first | exact Ex.refl _ | assumption | (refine Ex.of_grown ?_ (by assumption) (by intro k hk; cases hk; omega)) | (refine Ex.trans ?_ (by assumption)))))) rfl (fun wq he => ?_); have hsz := he.size)
      | (have _ := tkE; refine W_callv (c21.2.2 _ (show Ex wp _ from (by repeat (first | exact Ex.refl _ | assumption | (refine Ex.of_grown ?_ (by assumption) (by intro k hk; cases hk; omega)) | (refine Ex.trans ?_ (by assumption)))))) rfl (fun wq he => ?_); have hsz := he.size)
      | (have _ := tkE; refine W_callv (c1.2.1 _ (show Ex wv _ from (by repeat (first | exact Ex.refl _ | assumption | (refine Ex.of_grown ?_ (by assumption) (by intro k hk; cases hk; omega)) | (refine Ex.trans ?_ (by assumption)))))) rfl (fun wq he => ?_); have hsz := he.size)
      | (have _ := tkE; refine W_callv (c2.2.1 _ (show Ex wv _ from (by repeat (first | exact Ex.refl _ | assumption | (refine Ex.of_grown ?_ (by assumption) (by intro k hk; cases hk; omega)) | (refine Ex.trans ?_ (by assumption)))))) rfl (fun wq he => ?_); have hsz := he.size)
      | (have _ := tkE; (with_reducible apply WM_op); exact rfl; exact rfl; (intro wq he; first | exact r_takeVs (i := 1) rfl (Vals.ex (show Ex wv _ from (by repeat (first | exact Ex.refl _ | assumption | (refine Ex.of_grown ?_ (by assumption) (by intro k hk; cases hk; omega)) | (refine Ex.trans ?_ (by assumption))))) hW.1) rfl (by simp) | exact r_dropVs (i := 1) rfl (Vals.ex (show Ex wv _ from (by repeat (first | exact Ex.refl _ | assumption | (refine Ex.of_grown ?_ (by assumption) (by intro k hk; cases hk; omega)) | (refine Ex.trans ?_ (by assumption))))) hW.1) rfl (by simp)))
      | (have _ := tkE; refine W_callv (works_any _) rfl (fun wq he => ?_); have hsz := he.size)
      | ((first | ((with_reducible apply W_op); exact rfl; exact rfl) | ((with_reducible apply WQ_op); exact rfl; exact rfl; intro wq he) | ((with_reducible apply WM_op); exact rfl; exact rfl; intro wq he) | ((with_reducible apply WB_op); exact rfl; exact rfl; intro wq)); (first | ((with_reducible apply r_conv8); exact rfl; omega) | ((with_reducible apply r_conv16); exact rfl; omega) | ((with_reducible apply r_remE); exact rfl; exact rfl; omega; omega) | ((with_reducible apply r_indexArr); exact rfl; exact rfl; omega) | (exact r_indexArr (i := 0) rfl rfl (by decide)) | (exact r_indexArr (i := 1) rfl rfl (by decide)) | (exact r_indexArr (i := 2) rfl rfl (by decide)) | ((with_reducible apply r_move); ((conv => lhs; whnf) <;> exact rfl)) | ((with_reducible apply r_assign); ((conv => lhs; whnf) <;> exact rfl)) | ((with_reducible apply r_fieldAddr); exact rfl) | ((with_reducible apply r_load); exact rfl; exact rfl; (first | assumption | exact (Bx.cell (by repeat (first | assumption | ((with_reducible apply Bx.grownS); assumption; (first | omega | exact Bx.ne (by assumption) (by omega))) | ((with_reducible apply Bx.below); assumption; omega) | ((with_reducible apply Bx.ex); assumption))) _).trans rfl | exact Ex.cell (by assumption) (by assumption))) | ((with_reducible apply r_loadF); exact rfl; (first | assumption | exact (Bx.cell (by repeat (first | assumption | ((with_reducible apply Bx.grownS); assumption; (first | omega | exact Bx.ne (by assumption) (by omega))) | ((with_reducible apply Bx.below); assumption; omega) | ((with_reducible apply Bx.ex); assumption))) _).trans rfl | exact Ex.cell (by assumption) (by assumption))) | ((with_reducible apply r_loadA); exact rfl; (first | assumption | exact Bx.cells (by repeat (first | assumption | ((with_reducible apply Bx.grownS); assumption; (first | omega | exact Bx.ne (by assumption) (by omega))) | ((with_reducible apply Bx.below); assumption; omega) | ((with_reducible apply Bx.ex); assumption))) | exact Cells.ex (by assumption) (by assumption)); exact rfl) | ((with_reducible apply r_leq); exact rfl; exact rfl) | ((with_reducible apply r_geq); exact rfl; exact rfl) | ((with_reducible apply r_eql); exact rfl; exact rfl) | ((with_reducible apply r_neq); exact rfl; exact rfl) | ((with_reducible apply r_add); exact rfl; exact rfl; omega) | ((with_reducible apply r_pick_true); exact rfl; ((conv => lhs; whnf) <;> exact rfl)) | ((with_reducible apply r_pick_false); exact rfl; ((conv => lhs; whnf) <;> exact rfl)) | ((with_reducible apply r_rem); exact rfl; exact rfl; omega) | ((with_reducible apply r_eqlb); exact rfl; exact rfl) | ((with_reducible apply r_neqb); exact rfl; exact rfl) | ((with_reducible apply r_extract); exact rfl; exact rfl) | ((with_reducible apply r_conv); exact rfl) | ((with_reducible apply r_build2); ((conv => lhs; whnf) <;> exact rfl); ((conv => lhs; whnf) <;> exact rfl); (first | exact rfl | assumption | exact IntsK.one (by assumption) | exact Prs.one (by assumption) | exact OwnP.one (by assumption) | exact Own.one (by assumption) | exact Row.one (by assumption) | exact OwnR.one (by assumption)); (first | exact rfl | assumption | exact IntsK.one (by assumption) | exact Prs.one (by assumption) | exact OwnP.one (by assumption) | exact Own.one (by assumption) | exact Row.one (by assumption) | exact OwnR.one (by assumption)); exact rfl; exact rfl; ((simp only [lay, lset, List.replicate_succ, List.replicate_zero]) <;> exact rfl)) | ((with_reducible apply r_loadSub); exact rfl; (focus ((repeat (first | assumption | ((with_reducible apply Bx.grownS); assumption; (first | omega | exact Bx.ne (by assumption) (by omega))) | ((with_reducible apply Bx.below); assumption; omega) | ((with_reducible apply Bx.ex); assumption))); done)); ((simp only [Nat.add_zero, Nat.zero_add, Nat.reduceAdd, List.drop_zero, List.drop_succ_cons, List.take_succ_cons, List.take_zero]) <;> exact rfl); exact rfl) | ((with_reducible apply r_bldA); kernel_rfl; ((conv => lhs; whnf) <;> exact rfl); ((conv => lhs; whnf) <;> exact rfl); (first | exact rfl | assumption | exact IntsK.one (by assumption) | exact Prs.one (by assumption) | exact OwnP.one (by assumption) | exact Own.one (by assumption) | exact Row.one (by assumption) | exact OwnR.one (by assumption))) | ((with_reducible apply r_max2); exact rfl; exact rfl) | ((with_reducible apply r_arr3); ((conv => lhs; whnf) <;> exact rfl); ((conv => lhs; whnf) <;> exact rfl); ((conv => lhs; whnf) <;> exact rfl); (first | exact rfl | assumption | exact IntsK.one (by assumption) | exact Prs.one (by assumption) | exact OwnP.one (by assumption) | exact Own.one (by assumption) | exact Row.one (by assumption) | exact OwnR.one (by assumption)); (first | exact rfl | assumption | exact IntsK.one (by assumption) | exact Prs.one (by assumption) | exact OwnP.one (by assumption) | exact Own.one (by assumption) | exact Row.one (by assumption) | exact OwnR.one (by assumption)); (first | exact rfl | assumption | exact IntsK.one (by assumption) | exact Prs.one (by assumption) | exact OwnP.one (by assumption) | exact Own.one (by assumption) | exact Row.one (by assumption) | exact OwnR.one (by assumption)))))
      | (refine c_mixX (id := 4) [] [0, 1, 2, 3, 4, 5, 6, 7, 8, 9] 4 #[true, true, true, true, true, true, true, true, true, true, false, false, false, false] [false, false, false, false, false, false, false, false, false, false, false, false, false, false] [true, true, true, true, true, true, true, true, true, true, false, false, false, false] (by kernel_rfl) (by kernel_rfl) (by kernel_rfl) (by dsimp only [sel] <;> exact rfl) (by dsimp only [sel] <;> exact rfl) ?_)
      | (refine XT_two (t := 10) (t' := 12) (s := false) (s' := false) (listed := #[true, true, true, true, true, true, true, true, true, true, false, false, false, false]) (l1 := #[true, true, true, true, true, true, true, true, true, true, true, false, false, false]) (l1' := #[true, true, true, true, true, true, true, true, true, true, false, false, true, false]) (by kernel_rfl) rfl rfl (by kernel_rfl) (by kernel_rfl) (by kernel_rfl) (by kernel_rfl) ?_ ?_)
      | (refine XT_two (t := 11) (t' := 12) (s := true) (s' := false) (listed := #[true, true, true, true, true, true, true, true, true, true, true, false, false, false]) (l1 := #[true, true, true, true, true, true, true, true, true, true, true, true, false, false]) (l1' := #[true, true, true, true, true, true, true, true, true, true, true, false, true, false]) (by kernel_rfl) rfl rfl (by kernel_rfl) (by kernel_rfl) (by kernel_rfl) (by kernel_rfl) ?_ ?_)
      | (refine XT_one (t := 10) (s := false) (listed := #[true, true, true, true, true, true, true, true, true, true, false, false, true, false]) (listed' := #[true, true, true, true, true, true, true, true, true, true, true, false, true, false]) (by kernel_rfl) rfl (by kernel_rfl) (by kernel_rfl) ?_)
      | (refine XT_one (t := 12) (s := false) (listed := #[true, true, true, true, true, true, true, true, true, true, true, true, false, false]) (listed' := #[true, true, true, true, true, true, true, true, true, true, true, true, true, false]) (by kernel_rfl) rfl (by kernel_rfl) (by kernel_rfl) ?_)
      | (refine XT_one (t := 11) (s := true) (listed := #[true, true, true, true, true, true, true, true, true, true, true, false, true, false]) (listed' := #[true, true, true, true, true, true, true, true, true, true, true, true, true, false]) (by kernel_rfl) rfl (by kernel_rfl) (by kernel_rfl) ?_)
      | (refine XT_one (t := 13) (s := true) (listed := #[true, true, true, true, true, true, true, true, true, true, true, true, true, false]) (listed' := #[true, true, true, true, true, true, true, true, true, true, true, true, true, true]) (by kernel_rfl) rfl (by kernel_rfl) (by kernel_rfl) ?_)
      | (with_reducible apply XB_nil)
      | ((with_reducible apply XM_nil); intro wq he; have hsz := he.size)
      | ((with_reducible apply XT_nil); kernel_rfl)
      | (with_reducible apply x_sink)
      | ((with_reducible apply x_keep); (focus ((repeat (first | assumption | exact Ex.refl _ | (refine Ex.trans ?_ (by assumption)) | (refine Ex.of_grown ?_ (by assumption) (by intro k hk; cases hk; omega)))); done)); intro wq he; have hsz := he.size)
      | (refine c_mixX (id := 13) [] [0, 1, 2, 3, 4, 5, 6] 8 #[true, true, true, true, true, true, true, false, false, false, false, false, false, false, false] [false, false, false, false, false, false, false, false, false, false, false, false, false, false, false] [true, true, true, true, true, true, true, false, false, false, false, false, false, false, false] (by kernel_rfl) (by kernel_rfl) (by kernel_rfl) (by dsimp only [sel] <;> exact rfl) (by dsimp only [sel] <;> exact rfl) ?_)
      | (refine XT_one (t := 7) (s := true) (listed := #[true, true, true, true, true, true, true, false, false, false, false, false, false, false, false]) (listed' := #[true, true, true, true, true, true, true, true, false, false, false, false, false, false, false]) (by kernel_rfl) rfl (by kernel_rfl) (by kernel_rfl) ?_)
      | (refine XT_pure (t := 8) (listed := #[true, true, true, true, true, true, true, true, false, false, false, false, false, false, false]) (listed' := #[true, true, true, true, true, true, true, true, true, false, false, false, false, false, false]) (by kernel_rfl) rfl rfl rfl (by kernel_rfl) (by intro wq; ((with_reducible apply r_move); ((conv => lhs; whnf) <;> exact rfl))) ?_)
      | (refine XT_pure (t := 9) (listed := #[true, true, true, true, true, true, true, true, true, false, false, false, false, false, false]) (listed' := #[true, true, true, true, true, true, true, true, true, true, false, false, false, false, false]) (by kernel_rfl) rfl rfl rfl (by kernel_rfl) (by intro wq; ((with_reducible apply r_extract); exact rfl; exact rfl)) ?_)
      | (refine XT_pure (t := 10) (listed := #[true, true, true, true, true, true, true, true, true, true, false, false, false, false, false]) (listed' := #[true, true, true, true, true, true, true, true, true, true, true, false, false, false, false]) (by kernel_rfl) rfl rfl rfl (by kernel_rfl) (by intro wq; ((with_reducible apply r_extract); exact rfl; exact rfl)) ?_)
      | (refine XT_pure (t := 11) (listed := #[true, true, true, true, true, true, true, true, true, true, true, false, false, false, false]) (listed' := #[true, true, true, true, true, true, true, true, true, true, true, true, false, false, false]) (by kernel_rfl) rfl rfl rfl (by kernel_rfl) (by intro wq; ((with_reducible apply r_extract); exact rfl; exact rfl)) ?_)
      | (refine XT_pure (t := 12) (listed := #[true, true, true, true, true, true, true, true, true, true, true, true, false, false, false]) (listed' := #[true, true, true, true, true, true, true, true, true, true, true, true, true, false, false]) (by kernel_rfl) rfl rfl rfl (by kernel_rfl) (by intro wq; ((with_reducible apply r_assign); ((conv => lhs; whnf) <;> exact rfl))) ?_)
      | (refine XT_pure (t := 13) (listed := #[true, true, true, true, true, true, true, true, true, true, true, true, true, false, false]) (listed' := #[true, true, true, true, true, true, true, true, true, true, true, true, true, true, false]) (by kernel_rfl) rfl rfl rfl (by kernel_rfl) (by intro wq; ((with_reducible apply r_assign); ((conv => lhs; whnf) <;> exact rfl))) ?_)
      | (refine XT_pure (t := 14) (listed := #[true, true, true, true, true, true, true, true, true, true, true, true, true, true, false]) (listed' := #[true, true, true, true, true, true, true, true, true, true, true, true, true, true, true]) (by kernel_rfl) rfl rfl rfl (by kernel_rfl) (by intro wq; ((with_reducible apply r_assign); ((conv => lhs; whnf) <;> exact rfl))) ?_)
      | (with_reducible apply XB_nil)
      | ((with_reducible apply XM_nil); intro wq he; have hsz := he.size)
      | ((with_reducible apply XT_nil); kernel_rfl)
      | (with_reducible apply x_sink)
      | ((with_reducible apply x_keep); (focus ((repeat (first | assumption | exact Ex.refl _ | (refine Ex.trans ?_ (by assumption)) | (refine Ex.of_grown ?_ (by assumption) (by intro k hk; cases hk; omega)))); done)); intro wq he; have hsz := he.size)
      | (refine c_mixX (id := 14) [] [0, 1, 2, 3, 4, 5, 6] 8 #[true, true, true, true, true, true, true, false, false, false, false, false, false, false, false] [false, false, false, false, false, false, false, false, false, false, false, false, false, false, false] [true, true, true, true, true, true, true, false, false, false, false, false, false, false, false] (by kernel_rfl) (by kernel_rfl) (by kernel_rfl) (by dsimp only [sel] <;> exact rfl) (by dsimp only [sel] <;> exact rfl) ?_)
      | (refine XT_one (t := 7) (s := true) (listed := #[true, true, true, true, true, true, true, false, false, false, false, false, false, false, false]) (listed' := #[true, true, true, true, true, true, true, true, false, false, false, false, false, false, false]) (by kernel_rfl) rfl (by kernel_rfl) (by kernel_rfl) ?_)
      | (refine XT_pure (t := 8) (listed := #[true, true, true, true, true, true, true, true, false, false, false, false, false, false, false]) (listed' := #[true, true, true, true, true, true, true, true, true, false, false, false, false, false, false]) (by kernel_rfl) rfl rfl rfl (by kernel_rfl) (by intro wq; ((with_reducible apply r_move); ((conv => lhs; whnf) <;> exact rfl))) ?_)
      | (refine XT_pure (t := 9) (listed := #[true, true, true, true, true, true, true, true, true, false, false, false, false, false, false]) (listed' := #[true, true, true, true, true, true, true, true, true, true, false, false, false, false, false]) (by kernel_rfl) rfl rfl rfl (by kernel_rfl) (by intro wq; ((with_reducible apply r_extract); exact rfl; exact rfl)) ?_)
      | (refine XT_pure (t := 10) (listed := #[true, true, true, true, true, true, true, true, true, true, false, false, false, false, false]) (listed' := #[true, true, true, true, true, true, true, true, true, true, true, false, false, false, false]) (by kernel_rfl) rfl rfl rfl (by kernel_rfl) (by intro wq; ((with_reducible apply r_extract); exact rfl; exact rfl)) ?_)
      | (refine XT_pure (t := 11) (listed := #[true, true, true, true, true, true, true, true, true, true, true, false, false, false, false]) (listed' := #[true, true, true, true, true, true, true, true, true, true, true, true, false, false, false]) (by kernel_rfl) rfl rfl rfl (by kernel_rfl) (by intro wq; ((with_reducible apply r_extract); exact rfl; exact rfl)) ?_)
      | (refine XT_pure (t := 12) (listed := #[true, true, true, true, true, true, true, true, true, true, true, true, false, false, false]) (listed' := #[true, true, true, true, true, true, true, true, true, true, true, true, true, false, false]) (by kernel_rfl) rfl rfl rfl (by kernel_rfl) (by intro wq; ((with_reducible apply r_assign); ((conv => lhs; whnf) <;> exact rfl))) ?_)
      | (refine XT_pure (t := 13) (listed := #[true, true, true, true, true, true, true, true, true, true, true, true, true, false, false]) (listed' := #[true, true, true, true, true, true, true, true, true, true, true, true, true, true, false]) (by kernel_rfl) rfl rfl rfl (by kernel_rfl) (by intro wq; ((with_reducible apply r_assign); ((conv => lhs; whnf) <;> exact rfl))) ?_)
      | (refine XT_pure (t := 14) (listed := #[true, true, true, true, true, true, true, true, true, true, true, true, true, true, false]) (listed' := #[true, true, true, true, true, true, true, true, true, true, true, true, true, true, true]) (by kernel_rfl) rfl rfl rfl (by kernel_rfl) (by intro wq; ((with_reducible apply r_assign); ((conv => lhs; whnf) <;> exact rfl))) ?_)
      | (with_reducible apply XB_nil)
      | ((with_reducible apply XM_nil); intro wq he; have hsz := he.size)
      | ((with_reducible apply XT_nil); kernel_rfl)
      | (with_reducible apply x_sink)
      | ((with_reducible apply x_keep); (focus ((repeat (first | assumption | exact Ex.refl _ | (refine Ex.trans ?_ (by assumption)) | (refine Ex.of_grown ?_ (by assumption) (by intro k hk; cases hk; omega)))); done)); intro wq he; have hsz := he.size)
      | (with_reducible apply W_nil)
      | ((with_reducible apply WQ_nil); exact rfl; intro wq he; have hsz := he.size)
      | (with_reducible apply WM_nil; intro wq he; have hsz := he.size)
      | (with_reducible apply WB_nil)
      | (with_reducible apply WT_nil)
      | (with_reducible apply WT_cons)
      | (with_reducible apply t_sink)
      | ((with_reducible apply t_keep); (focus ((repeat (first | assumption | exact Ex.refl _ | (refine Ex.trans ?_ (by assumption)) | (refine Ex.of_grown ?_ (by assumption) (by intro k hk; cases hk; omega)))); done)); intro wq he; have hsz := he.size)
      | ((with_reducible apply W_box); exact rfl; exact rfl; intro bq wq hbq he hnq; have hltq := Bx.lt hbq; have hsz := he.size)
      | ((with_reducible apply W_alloc); exact rfl; intro bq wq hbq he hnq; have hltq := Bx.lt hbq; have hsz := he.size)
      | ((with_reducible apply W_indexInt); ((conv => lhs; whnf) <;> exact rfl); (focus ((repeat (first | assumption | ((with_reducible apply OwnR.grownS); assumption; omega) | ((with_reducible apply Row.ex); assumption) | ((with_reducible apply OwnR.ex); assumption) | ((refine IntsK.exH (by assumption) ?_); (focus ((repeat (first | exact Ex.refl _ | assumption | (refine Ex.of_grown ?_ (by assumption) (by intro k hk; cases hk; omega)) | (refine Ex.trans ?_ (by assumption)))); done))) | ((refine Prs.exH (by assumption) ?_); (focus ((repeat (first | exact Ex.refl _ | assumption | (refine Ex.of_grown ?_ (by assumption) (by intro k hk; cases hk; omega)) | (refine Ex.trans ?_ (by assumption)))); done))) | ((with_reducible apply Bx.grownS); assumption; (first | omega | exact Bx.ne (by assumption) (by omega))) | ((with_reducible apply Bx.below); assumption; omega) | ((with_reducible apply OwnP.grownS); assumption; omega) | ((with_reducible apply Own.grownS); assumption; omega) | ((with_reducible apply Bx.ex); assumption) | ((with_reducible apply IntsK.ex); assumption) | ((with_reducible apply Own.ex); assumption) | ((with_reducible apply Prs.ex); assumption) | ((with_reducible apply OwnP.ex); assumption))); done)); exact rfl; omega; intro pq hpq)
      | ((with_reducible apply W_indexIntss); ((conv => lhs; whnf) <;> exact rfl); assumption; (focus ((repeat (first | assumption | exact Ex.refl _ | (refine Ex.trans ?_ (by assumption)) | (refine Ex.of_grown ?_ (by assumption) (by intro k hk; cases hk; omega)))); done)); exact rfl; omega; intro pq uq hpq huq)
      | ((with_reducible apply WQ_indexInt); ((conv => lhs; whnf) <;> exact rfl); (focus ((repeat (first | assumption | ((with_reducible apply OwnR.grownS); assumption; omega) | ((with_reducible apply Row.ex); assumption) | ((with_reducible apply OwnR.ex); assumption) | ((refine IntsK.exH (by assumption) ?_); (focus ((repeat (first | exact Ex.refl _ | assumption | (refine Ex.of_grown ?_ (by assumption) (by intro k hk; cases hk; omega)) | (refine Ex.trans ?_ (by assumption)))); done))) | ((refine Prs.exH (by assumption) ?_); (focus ((repeat (first | exact Ex.refl _ | assumption | (refine Ex.of_grown ?_ (by assumption) (by intro k hk; cases hk; omega)) | (refine Ex.trans ?_ (by assumption)))); done))) | ((with_reducible apply Bx.grownS); assumption; (first | omega | exact Bx.ne (by assumption) (by omega))) | ((with_reducible apply Bx.below); assumption; omega) | ((with_reducible apply OwnP.grownS); assumption; omega) | ((with_reducible apply Own.grownS); assumption; omega) | ((with_reducible apply Bx.ex); assumption) | ((with_reducible apply IntsK.ex); assumption) | ((with_reducible apply Own.ex); assumption) | ((with_reducible apply Prs.ex); assumption) | ((with_reducible apply OwnP.ex); assumption))); done)); exact rfl; omega; intro pq hpq)
      | ((with_reducible apply WQ_indexIntss); ((conv => lhs; whnf) <;> exact rfl); assumption; (focus ((repeat (first | assumption | exact Ex.refl _ | (refine Ex.trans ?_ (by assumption)) | (refine Ex.of_grown ?_ (by assumption) (by intro k hk; cases hk; omega)))); done)); exact rfl; omega; intro pq uq hpq huq)
      | ((with_reducible apply WM_indexInt); ((conv => lhs; whnf) <;> exact rfl); (focus ((repeat (first | assumption | ((with_reducible apply OwnR.grownS); assumption; omega) | ((with_reducible apply Row.ex); assumption) | ((with_reducible apply OwnR.ex); assumption) | ((refine IntsK.exH (by assumption) ?_); (focus ((repeat (first | exact Ex.refl _ | assumption | (refine Ex.of_grown ?_ (by assumption) (by intro k hk; cases hk; omega)) | (refine Ex.trans ?_ (by assumption)))); done))) | ((refine Prs.exH (by assumption) ?_); (focus ((repeat (first | exact Ex.refl _ | assumption | (refine Ex.of_grown ?_ (by assumption) (by intro k hk; cases hk; omega)) | (refine Ex.trans ?_ (by assumption)))); done))) | ((with_reducible apply Bx.grownS); assumption; (first | omega | exact Bx.ne (by assumption) (by omega))) | ((with_reducible apply Bx.below); assumption; omega) | ((with_reducible apply OwnP.grownS); assumption; omega) | ((with_reducible apply Own.grownS); assumption; omega) | ((with_reducible apply Bx.ex); assumption) | ((with_reducible apply IntsK.ex); assumption) | ((with_reducible apply Own.ex); assumption) | ((with_reducible apply Prs.ex); assumption) | ((with_reducible apply OwnP.ex); assumption))); done)); exact rfl; omega; intro pq hpq)
      | ((with_reducible apply WM_indexIntss); ((conv => lhs; whnf) <;> exact rfl); assumption; (focus ((repeat (first | assumption | exact Ex.refl _ | (refine Ex.trans ?_ (by assumption)) | (refine Ex.of_grown ?_ (by assumption) (by intro k hk; cases hk; omega)))); done)); exact rfl; omega; intro pq uq hpq huq)
      | ((with_reducible apply W_indexPr); ((conv => lhs; whnf) <;> exact rfl); (focus ((repeat (first | assumption | ((with_reducible apply OwnR.grownS); assumption; omega) | ((with_reducible apply Row.ex); assumption) | ((with_reducible apply OwnR.ex); assumption) | ((refine IntsK.exH (by assumption) ?_); (focus ((repeat (first | exact Ex.refl _ | assumption | (refine Ex.of_grown ?_ (by assumption) (by intro k hk; cases hk; omega)) | (refine Ex.trans ?_ (by assumption)))); done))) | ((refine Prs.exH (by assumption) ?_); (focus ((repeat (first | exact Ex.refl _ | assumption | (refine Ex.of_grown ?_ (by assumption) (by intro k hk; cases hk; omega)) | (refine Ex.trans ?_ (by assumption)))); done))) | ((with_reducible apply Bx.grownS); assumption; (first | omega | exact Bx.ne (by assumption) (by omega))) | ((with_reducible apply Bx.below); assumption; omega) | ((with_reducible apply OwnP.grownS); assumption; omega) | ((with_reducible apply Own.grownS); assumption; omega) | ((with_reducible apply Bx.ex); assumption) | ((with_reducible apply IntsK.ex); assumption) | ((with_reducible apply Own.ex); assumption) | ((with_reducible apply Prs.ex); assumption) | ((with_reducible apply OwnP.ex); assumption))); done)); exact rfl; omega; intro pq hpq)
      | ((with_reducible apply WQ_indexPr); ((conv => lhs; whnf) <;> exact rfl); (focus ((repeat (first | assumption | ((with_reducible apply OwnR.grownS); assumption; omega) | ((with_reducible apply Row.ex); assumption) | ((with_reducible apply OwnR.ex); assumption) | ((refine IntsK.exH (by assumption) ?_); (focus ((repeat (first | exact Ex.refl _ | assumption | (refine Ex.of_grown ?_ (by assumption) (by intro k hk; cases hk; omega)) | (refine Ex.trans ?_ (by assumption)))); done))) | ((refine Prs.exH (by assumption) ?_); (focus ((repeat (first | exact Ex.refl _ | assumption | (refine Ex.of_grown ?_ (by assumption) (by intro k hk; cases hk; omega)) | (refine Ex.trans ?_ (by assumption)))); done))) | ((with_reducible apply Bx.grownS); assumption; (first | omega | exact Bx.ne (by assumption) (by omega))) | ((with_reducible apply Bx.below); assumption; omega) | ((with_reducible apply OwnP.grownS); assumption; omega) | ((with_reducible apply Own.grownS); assumption; omega) | ((with_reducible apply Bx.ex); assumption) | ((with_reducible apply IntsK.ex); assumption) | ((with_reducible apply Own.ex); assumption) | ((with_reducible apply Prs.ex); assumption) | ((with_reducible apply OwnP.ex); assumption))); done)); exact rfl; omega; intro pq hpq)
      | ((with_reducible apply W_bsP); exact rfl; exact rfl; intro bq wq hbq he hnq; have hltq := Bx.lt hbq; have hsz := he.size)
      | ((with_reducible apply W_storeA); exact rfl; (focus ((repeat (first | assumption | ((with_reducible apply Bx.grownS); assumption; (first | omega | exact Bx.ne (by assumption) (by omega))) | ((with_reducible apply Bx.below); assumption; omega) | ((with_reducible apply Bx.ex); assumption))); done)); exact rfl; exact rfl; exact rfl; (repeat' (first | exact trivial | (first | exact rfl | assumption | exact IntsK.one (by assumption) | exact Prs.one (by assumption) | exact OwnP.one (by assumption) | exact Own.one (by assumption) | exact Row.one (by assumption) | exact OwnR.one (by assumption)) | constructor)); intro wq hbq hgq; have he : Ex w wq := (by repeat (first | assumption | exact Ex.refl _ | (refine Ex.trans ?_ (by assumption)) | (refine Ex.of_grown ?_ (by assumption) (by intro k hk; cases hk; omega)))); have hsz := he.size; have hgz := hgq.size)
      | ((with_reducible apply W_store); exact rfl; (focus ((repeat (first | assumption | ((with_reducible apply Bx.grownS); assumption; (first | omega | exact Bx.ne (by assumption) (by omega))) | ((with_reducible apply Bx.below); assumption; omega) | ((with_reducible apply Bx.ex); assumption))); done)); exact Nat.le_of_ble_eq_true rfl; ((conv => lhs; whnf) <;> exact rfl); (first | exact rfl | assumption | exact IntsK.one (by assumption) | exact Prs.one (by assumption) | exact OwnP.one (by assumption) | exact Own.one (by assumption) | exact Row.one (by assumption) | exact OwnR.one (by assumption)); simp only [lset]; intro wq hbq hgq; have he : Ex w wq := (by repeat (first | assumption | exact Ex.refl _ | (refine Ex.trans ?_ (by assumption)) | (refine Ex.of_grown ?_ (by assumption) (by intro k hk; cases hk; omega)))); have hsz := he.size; have hgz := hgq.size)
      | ((with_reducible apply W_pass); exact rfl; exact rfl; exact rfl; exact rfl; exact rfl)
      | ((with_reducible apply W_take); exact rfl; exact rfl; exact rfl)
      | ((with_reducible apply W_passU); exact rfl; exact rfl; exact rfl; exact rfl)
      | ((with_reducible apply W_split); exact rfl; exact rfl; intro _; rotate_left 1; intro _)
      | ((with_reducible apply WQ_pass); exact rfl; exact rfl; exact rfl; exact rfl; exact rfl)
      | ((with_reducible apply WQ_take); exact rfl; exact rfl; exact rfl)
      | ((with_reducible apply WQ_passU); exact rfl; exact rfl; exact rfl; exact rfl)
      | ((with_reducible apply WQ_split); exact rfl; exact rfl; intro _; rotate_left 1; intro _)
      | ((with_reducible apply WM_pass); exact rfl; exact rfl; exact rfl; exact rfl; exact rfl)
      | ((with_reducible apply WM_take); exact rfl; exact rfl; exact rfl)
      | ((with_reducible apply WM_passU); exact rfl; exact rfl; exact rfl; exact rfl)
      | ((with_reducible apply WM_split); exact rfl; exact rfl; intro _; rotate_left 1; intro _)
      | ((with_reducible apply c_quiet); kernel_rfl)
      | ((with_reducible apply W_convBytes); exact rfl; (first | assumption | (unfold maxLen; omega)); intro vq wq hvq he; have hsz := he.size)
      | ((with_reducible apply W_bs2); ((conv => lhs; whnf) <;> exact rfl); ((conv => lhs; whnf) <;> exact rfl); (first | exact rfl | assumption | exact IntsK.one (by assumption) | exact Prs.one (by assumption) | exact OwnP.one (by assumption) | exact Own.one (by assumption) | exact Row.one (by assumption) | exact OwnR.one (by assumption)); (first | exact rfl | assumption | exact IntsK.one (by assumption) | exact Prs.one (by assumption) | exact OwnP.one (by assumption) | exact Own.one (by assumption) | exact Row.one (by assumption) | exact OwnR.one (by assumption)); decide; decide; exact rfl; exact rfl; ((simp only [lay, lset, List.replicate_succ, List.replicate_zero]) <;> exact rfl); intro bq wq hbq he hnq; have hltq := Bx.lt hbq; have hsz := he.size)
      | (with_reducible apply c_seq)
      | ((with_reducible apply c_region); kernel_rfl)
      | (with_reducible apply n_nq)
      | (with_reducible apply c_skip)
      | (with_reducible apply c_ret)
      | ((with_reducible apply c_cond_true); exact rfl)
      | ((with_reducible apply c_cond_false); exact rfl)
      | ((with_reducible apply c_cond_dec); exact rfl; intro _; rotate_left 1; intro _)
      | ((with_reducible apply c_cond_bool); exact rfl; intro _; rotate_left 1; intro _)
      | (with_reducible apply n_then)
      | (with_reducible apply e_then)
      | (with_reducible apply r_then)
      | ((with_reducible apply p_ret1); exact rfl; exact rfl; ((conv => lhs; whnf) <;> exact rfl); refine ⟨_, rfl, ?_, (by repeat (first | assumption | exact Ex.refl _ | (refine Ex.trans ?_ (by assumption)) | (refine Ex.of_grown ?_ (by assumption) (by intro k hk; cases hk; omega))))⟩)
      | ((with_reducible apply m_ret1); (focus ((repeat (first | assumption | exact Al.nil _ _ | ((with_reducible apply Al.grownS); assumption; (focus ((repeat (first | assumption | ((with_reducible apply Bx.grownS); assumption; (first | omega | exact Bx.ne (by assumption) (by omega))) | ((with_reducible apply Bx.below); assumption; omega) | ((with_reducible apply Bx.ex); assumption))); done))) | (refine Al.ex (by assumption) ?_))); done)); exact rfl; ((conv => lhs; whnf) <;> exact rfl); refine ⟨_, rfl, ?_, (shut_grown _ _ (by repeat (first | assumption | exact Al.nil _ _ | ((with_reducible apply Al.grownS); assumption; (focus ((repeat (first | assumption | ((with_reducible apply Bx.grownS); assumption; (first | omega | exact Bx.ne (by assumption) (by omega))) | ((with_reducible apply Bx.below); assumption; omega) | ((with_reducible apply Bx.ex); assumption))); done))) | (refine Al.ex (by assumption) ?_))) (by repeat (first | assumption | exact Ex.refl _ | (refine Ex.trans ?_ (by assumption)) | (refine Ex.of_grown ?_ (by assumption) (by intro k hk; cases hk; omega)))) (Nat.le_refl _))⟩)
      | ((with_reducible apply p_retct); exact rfl; exact rfl; exact inferInstance; exact inferInstance; exact rfl; (focus ((repeat (first | assumption | ((with_reducible apply Bx.grownS); assumption; (first | omega | exact Bx.ne (by assumption) (by omega))) | ((with_reducible apply Bx.below); assumption; omega) | ((with_reducible apply Bx.ex); assumption))); done)); exact rfl; exact rfl; refine ⟨_, rfl, ?_, (by repeat (first | assumption | exact Ex.refl _ | (refine Ex.trans ?_ (by assumption)) | (refine Ex.of_grown ?_ (by assumption) (by intro k hk; cases hk; omega))))⟩)
      | ((exfalso; omega)))
  all_goals first
    | rfl
    | trace_state
end Go.Proofs.Ytlphfobpheefkaa
