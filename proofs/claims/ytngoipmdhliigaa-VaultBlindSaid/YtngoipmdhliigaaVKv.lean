/-
  (heavy) What this text proves: the search for a choice of shares that lie on one polynomial, and Wrong. Conditions: the values read as lists.
-/
import Derived.Test.YtngoipmdhliigaaVKu
set_option linter.unusedVariables false
set_option linter.unusedSimpArgs false
namespace Go.Pv
open Go.RowKit
theorem Ints.kc {w w' : World} {v : Value} {xs : List Int} (e : KC w w') (h : Ints w v xs) : Ints w' v xs := by
  unfold Ints IntsK Sl at *
  obtain ⟨h0, a, cap, h1, h2, h3, h4⟩ := h
  refine ⟨h0, a, cap, h1, h2, h3, fun i h => ?_⟩
  obtain ⟨p, u, h5, h6, h7⟩ := h4 i h
  exact ⟨p, u, h5, e.cell h6, h7⟩
theorem Ints.store {w w' : World} {b : Nat} {u v : Value} {T : TypeId} {xs : List Int} (h : Ints w v xs) (hb : Bx w b [u] T) (hu : ∀ n, u ≠ .int .i64 n) (hg : w.grownBy w' (some b)) : Ints w' v xs := by
  unfold Ints IntsK Sl at *
  obtain ⟨h0, a, cap, h1, h2, h3, h4⟩ := h
  refine ⟨h0, a, cap, h1, h2, h3, fun i h => ?_⟩
  obtain ⟨p, u2, h5, h6, h7⟩ := h4 i h
  refine ⟨p, u2, h5, ?_, h7⟩
  unfold IntR at h7
  subst h7
  by_cases hbk : (p.add i).block = b
  · exfalso
    unfold World.cell? at h6
    unfold Bx at hb
    rw [hbk, hb] at h6
    simp at h6
    cases ho : (p.add i).off with
    | zero => rw [ho] at h6; simp at h6; exact hu _ h6.2
    | succ n => rw [ho] at h6; simp at h6
  · have e := hg.block (p.add i).block (cell_lt h6) (by simpa using fun h => hbk h)
    unfold World.cell? at h6 ⊢
    rw [e]; exact h6
theorem allP_next {p : Nat → Prop} {j : Nat} (h : ∀ i, i < j → p i) (hj : p j) : ∀ i, i < j + 1 → p i := by
  intro i hi
  rcases Nat.lt_succ_iff_lt_or_eq.1 hi with h1 | rfl
  · exact h i h1
  · exact hj
/-- The polynomial through the first shares. -/
def nwS (need : Nat) (c : List (Int × Int)) : List Int := newtonL (kS (c.take need)) (vS (c.take need))
theorem kS_take (c : List (Int × Int)) (n : Nat) : kS (c.take n) = (kS c).take n := by unfold kS; rw [List.map_take]
theorem Dist.take {ks : List Int} (h : Dist ks) (n : Nat) : Dist (ks.take n) := by
  intro i k hki hi hc
  simp at hi
  refine h i k hki (by omega) ?_
  have e1 : (ks.take n).getD i 0 = ks.getD i 0 := by simp only [List.getD]; rw [List.getElem?_take_of_lt (by omega)]
  have e2 : (ks.take n).getD k 0 = ks.getD k 0 := by simp only [List.getD]; rw [List.getElem?_take_of_lt (by omega)]
  rw [e1, e2] at hc
  exact hc
theorem take_get {c : List (Int × Int)} {n i : Nat} (h : i < n) : (c.take n).getD i (0, 0) = c.getD i (0, 0) := by simp only [List.getD]; rw [List.getElem?_take_of_lt h]
theorem drop_get (c : List (Int × Int)) (n j : Nat) : (c.drop n).getD j (0, 0) = c.getD (n + j) (0, 0) := by simp only [List.getD]; rw [List.getElem?_drop]
theorem agree_new {need : Nat} {c : List (Int × Int)} (h1 : 1 ≤ need) (hl : need ≤ c.length) (hs : okS c) (hd : Dist (kS c)) : agreeP need c ↔ ∀ j, need + j < c.length → atP (nwS need c) (c.getD (need + j) (0, 0)).1 = (c.getD (need + j) (0, 0)).2 := by
  have hdt : Dist (kS (c.take need)) := by rw [kS_take]; exact hd.take need
  have hlt : (kS (c.take need)).length = need := by rw [kS_len]; simp; omega
  have hlg : ∀ x, lgS c need x = atP (nwS need c) x := fun x => lag_newton hdt (by omega) x
  unfold agreeP
  rw [Nat.min_eq_left hl, off_nil]
  constructor
  · intro h j hj
    have := h (need + j) hj
    rw [hlg] at this
    exact this
  · intro h i hi
    rw [hlg]
    rcases Nat.lt_or_ge i need with h2 | h2
    · have hok := newton_ok (vs := vS (c.take need)) hdt (t := i) (by omega)
      rw [kS_get, vS_get, take_get h2] at hok
      exact Cg.eq ((show Cg (atP (nwS need c) (c.getD i (0, 0)).1) (evP (nwS need c) (c.getD i (0, 0)).1) from Cg.md _).trans hok) (md_bd _) (by have := (hs i).2; unfold nb at this; omega)
    · have := h (i - need) (by omega)
      rw [show need + (i - need) = i by omega] at this
      exact this
theorem okS.sub {c sh : List (Int × Int)} (h : c.Sublist sh) (hs : okS sh) : okS c := by
  intro i
  by_cases hi : i < c.length
  · have e : c.getD i (0, 0) = c[i] := by simp [hi]
    have hm : c[i] ∈ sh := h.subset (List.getElem_mem hi)
    obtain ⟨j, hj, e2⟩ := List.getElem_of_mem hm
    have := hs j
    rw [show sh.getD j (0, 0) = sh[j] by simp [hj], e2, ← e] at this
    exact this
  · have e : c.getD i (0, 0) = (0, 0) := by simp only [List.getD]; rw [List.getElem?_eq_none (by omega)]; rfl
    rw [e]; unfold nb; decide
theorem dist_pw {ks : List Int} : Dist ks ↔ ks.Pairwise fun a b => ¬ Cg b a := by
  rw [List.pairwise_iff_getElem]
  constructor
  · intro h i j hi hj hij
    have := h j i hij hj
    simpa [List.getD, hi, hj] using this
  · intro h i k hki hi
    have := h k i (by omega) hi hki
    simpa [List.getD, hi, show k < ks.length by omega] using this
theorem Dist.sub {c sh : List (Int × Int)} (h : c.Sublist sh) (hd : Dist (kS sh)) : Dist (kS c) := by
  rw [dist_pw] at hd ⊢
  exact hd.sublist (by unfold kS; exact h.map _)
section
variable {P : Program} {Q : Exit → Act → World → Prop} {l : St} {w : World} {c : Code}
theorem c_rangeAT {α : Type} {ps : List Tmp} {g : Operand} {assign body : Code} {gf : Nat} {lb : Array Value} {vs : α → List Value} {Kp : World → World → Prop} {T : α → World → Prop} {S Sp : List α → Prop} {B : Nat} (a₁ : St → α → St)
    (hg : ev l g = .func (.func gf) #[] lb) (eg : ∀ args w, (callFunc gf args).run P w = .ok (.enter gf args) w) (hseq : SeqT P gf lb (fun x => (vs x).toArray) Kp T S Sp w)
    (hTo : ∀ x, OwnFrom w.heap.size fun (_ : Unit) A => T x A) (hKr : ∀ A, Kp A A) (hKt : ∀ {A B C : World}, Kp A B → Kp B C → Kp A C) (hKb : ∀ (A : World) (i : Nat) (o o' : Obj), w.heap.size ≤ i → A.heap[i]? = some o → o.isCells = false → o.isWalk = false → Kp A (A.putObj i o')) (hps : ∀ x, (vs x).length = ps.length)
    (hal : Al B w l.ds) (hB : B ≤ w.heap.size)
    (I : List α → World → Prop) (Ix : Code → List α → World → Prop) (hI : OwnFrom w.heap.size I) (hIx : ∀ c, OwnFrom w.heap.size (Ix c)) (h0 : I [] w)
    (hassign : ∀ (i : Nat) (x : α) (A : World) (K : St → World → Prop), K (a₁ (rnd l) x) A → C (some i) P assign (Exit.then (fun a' A' => ∃ l', a' = act l' ∧ K l' A') fun _ _ _ => False) (upds (rnd l) ps (vs x)) A)
    (hbody : ∀ (i : Nat) (pre : List α) (x : α) (A : World), I pre A → T x A → C (some i) P body (ownPostK Kp I Ix (pre ++ [x]) A) (a₁ (rnd l) x) A)
    (hdone : ∀ (D : Nat) (xs : List α) (A : World), w.heap.size ≤ D → S xs → I xs A → Al B A (D :: l.ds) → Q .normal (act (mkd D l)) A)
    (hstop : ∀ (D : Nat) (c : Code) (pre : List α) (A : World), w.heap.size ≤ D → Sp pre → Ix c pre A → Al B A (D :: l.ds) → C none P c Q (mkd D l) A) :
    C none P (.rangeFunc g ps.toArray assign body) Q l w := by
  refine c_rangeT hg eg hseq hKt hKb hps hal hB I Ix (fun pre x l' A => (l' = a₁ (rnd l) x ∧ T x A) ∧ I pre A) hI hIx (fun l' => ?_) h0 (fun i pre x A h1 h2 => ?_) (fun i pre x l' A h1 => ?_) hdone hstop
  · rintro ⟨pre, x⟩ A A' row hs hg' hr
    exact ⟨⟨hs.1.1, hTo x () A A' row hs.1.2 hg' hr⟩, hI pre A A' row hs.2 hg' hr⟩
  · exact hassign i x A (fun l' A' => ((l' = a₁ (rnd l) x ∧ T x A') ∧ I pre A') ∧ KeepsOthers A A' ∧ Kp A A') ⟨⟨⟨rfl, h2⟩, h1⟩, KeepsOthers.refl A, hKr A⟩
  · obtain ⟨⟨rfl, h2⟩, h3⟩ := h1
    exact hbody i pre x A h3 h2
theorem m_retcc {B : Nat} {fn : Func} {t1 t2 T1 T2 T1' T2' b1 b2 : Nat} {u1 u2 : Value} {d1 d2 : TypeDesc} {R : Ending → World → Prop} (hal : Al B w l.ds) (hr : fn.results = #[.cell t1 T1, .cell t2 T2]) (h1 : Und P T1 d1) (hd1 : aggD d1 = false) (h2 : Und P T2 d2) (hd2 : aggD d2 = false)
    (ht1 : nth l t1 = .pointer (some ⟨b1, 0, none⟩)) (ht2 : nth l t2 = .pointer (some ⟨b2, 0, none⟩)) (hb1 : Bx w b1 [u1] T1') (hb2 : Bx w b2 [u2] T2') (h : R (.returned (.tuple #[u1, u2])) (shut l.ds w)) :
    BP P fn R .ret (act l) w := by
  refine bp_marks hal ⟨.tuple #[u1, u2], ?_, h⟩
  have h4 : (act l).tmps[t1]?.getD undef = .pointer (some ⟨b1, 0, none⟩) := by rw [← ht1]; exact nth_eq ..
  have h5 : (shut l.ds w).cell? ⟨b1, 0, none⟩ = some u1 := ((hb1.shut hal).cell 0).trans rfl
  have h6 : (act l).tmps[t2]?.getD undef = .pointer (some ⟨b2, 0, none⟩) := by rw [← ht2]; exact nth_eq ..
  have h7 : (shut l.ds w).cell? ⟨b2, 0, none⟩ = some u2 := ((hb2.shut hal).cell 0).trans rfl
  simp [results, hr, h4, h6, asAddr, loadVar, h1.isAgg, h2.isAgg, hd1, hd2, Sem.run_bind, Result.andThen, h5, h7]
end
theorem KC.shut {B : Nat} {w : World} {ds : List Nat} (hal : Al B w ds) : KC w (shut ds w) :=
  shut_fact (F := fun A => KC w A) (fun A D o h1 h2 h3 => h1.trans (KC.put h2 h3)) ds w hal (KC.refl w)
/-- What the search finds. -/
def FoundC (need k : Nat) (sh c : List (Int × Int)) : Prop := (c.length = k ∧ c.Sublist sh) ∧ agreeP need c
def SeI (need : Nat) (b3 b6 b7 : Nat) (T3 T6 T7 : TypeId) (w0 : World) (pre : List CV) (A : World) : Prop :=
  (∀ x ∈ pre, ¬ agreeP need x.1) ∧ Bx A b3 [.int .i64 (need : Int)] T3 ∧ Bx A b6 [.slice none 0 0] T6 ∧ Bx A b7 [.bool false] T7 ∧ Ex w0 A
def SeX (need k : Nat) (sh : List (Int × Int)) (b6 b7 : Nat) (T6 T7 : TypeId) (w0 : World) (c : Code) (pre : List CV) (A : World) : Prop :=
  c = .ret ∧ ∃ u ch, FoundC need k sh ch ∧ Bx A b6 [u] T6 ∧ Ints A u (nwS need ch) ∧ Bx A b7 [.bool true] T7 ∧ Ex w0 A
theorem SeI.own {need b3 b6 b7 : Nat} {T3 T6 T7 : TypeId} {w0 : World} {B : Nat} (h : w0.heap.size ≤ B) : OwnFrom B (SeI need b3 b6 b7 T3 T6 T7 w0) :=
  fun s A A' row hs hg hr => ⟨hs.1, hs.2.1.notCells hg fun r e => (hr r e).2, hs.2.2.1.notCells hg fun r e => (hr r e).2, hs.2.2.2.1.notCells hg fun r e => (hr r e).2, Ex.of_grown hs.2.2.2.2 hg fun k hk => by have := (hr k hk).1; omega⟩
theorem SeX.own {need k : Nat} {sh : List (Int × Int)} {b6 b7 : Nat} {T6 T7 : TypeId} {w0 : World} {B : Nat} (h : w0.heap.size ≤ B) (c : Code) : OwnFrom B (SeX need k sh b6 b7 T6 T7 w0 c) := by
  rintro s A A' row ⟨h0, u, ch, h1, h2, h3, h4, h5⟩ hg hr
  exact ⟨h0, u, ch, h1, h2.notCells hg fun r e => (hr r e).2, Ints.kc (KC.grown hg fun r e => (hr r e).2) h3, h4.notCells hg fun r e => (hr r e).2, Ex.of_grown h5 hg fun k hk => by have := (hr k hk).1; omega⟩
theorem TC.own {k : Nat} {sh : List (Int × Int)} {A A' : World} {x : CV} {row : Option Nat} {B : Nat} (h : TC k sh x A) (hg : A.grownBy A' row) (hr : ∀ r, row = some r → B ≤ r ∧ ∃ o : Obj, A.heap[r]? = some o ∧ o.isCells = false) : TC k sh x A' := ⟨h.1, Prs.kc (KC.grown hg fun r e => (hr r e).2) h.2⟩
end Go.Pv
namespace Go.Proofs.Ytngoipmdhliigaa
open Go.Pv Go.RowKit Go.Sort
set_option maxHeartbeats 8000000
set_option maxRecDepth 20000
theorem search_any (need most : Nat) (v : Value) (sh : List (Int × Int)) (w : World) (h : Prs w v sh) (hs : okS sh) (hd : Dist (kS sh)) (hn : 1 ≤ need ∧ need ≤ 8) (hl : sh.length ≤ 20) (hm : need + most ≤ sh.length) : Ret Try.prog 68 [.int .i64 (need : Int), .int .i64 (most : Int), v] w fun r w' => ∃ u b, r = .tuple #[u, .bool b] ∧
    ((b = true ∧ ∃ c, FoundC need (sh.length - most) sh c ∧ Ints w' u (nwS need c)) ∨ (b = false ∧ ∀ c, ¬ FoundC need (sh.length - most) sh c)) := by
  have hv1 := h.one
  obtain ⟨k, hk⟩ : ∃ k, k = sh.length - most := ⟨_, rfl⟩
  rw [← hk]
  have hch := fun w2 (e : Ex w w2) => choices_any k v sh w2 (Prs.ex e h)
  rw [show ((k : Nat) : Int) = (sh.length : Int) - (most : Int) by omega] at hch
  have tk3 : True := trivial
  have tk6 : True := trivial
  have tk7 : True := trivial
  refine ret_of_c Try.func68 rfl Try.ntmps68 (Nat.le_of_ble_eq_true rfl) (by dsimp only [ini, Nat.reduceAdd] <;> exact rfl) ?_
  repeat' (first
      | (clear tk3; (with_reducible apply W_box); exact rfl; exact rfl; intro b3 wq hbq he hnq; have hltq := Bx.lt hbq; have hsz := he.size; have hx3 : Bx wq b3 [.int .i64 (need : Int)] 3 := hbq)
      | (clear tk6; (with_reducible apply W_alloc); exact rfl; intro b6 wq hbq he hnq; have hltq := Bx.lt hbq; have hsz := he.size; have hx6 : Bx wq b6 [.slice none 0 0] 78 := hbq)
      | (clear tk7; (with_reducible apply W_alloc); exact rfl; intro b7 wq hbq he hnq; have hltq := Bx.lt hbq; have hsz := he.size; have hx7 : Bx wq b7 [.bool false] 4 := hbq)
      | ((with_reducible apply W_op); exact rfl; exact rfl; exact r_lenPrs rfl (Prs.ex (show Ex w _ from (by repeat (first | exact Ex.refl _ | assumption | (refine Ex.of_grown ?_ (by assumption) (by intro k hk; cases hk; omega)) | (refine Ex.trans ?_ (by assumption))))) h))
      | ((first | ((with_reducible apply W_op); exact rfl; exact rfl)); (first | ((with_reducible apply r_move); ((conv => lhs; whnf) <;> exact rfl)) | ((with_reducible apply r_sub); exact rfl; exact rfl; omega)))
      | (refine W_call (hch _ (by repeat (first | assumption | exact Ex.refl _ | (refine Ex.trans ?_ (by assumption)) | (refine Ex.of_grown ?_ (by assumption) (by intro k hk; cases hk; omega))))) rfl ?_; rintro vq wq ⟨b1, b2, rfl, hbx1, hbx2, hlb1, hlb2⟩ he; have hsz := he.size)
      | (with_reducible apply W_nil)
      | (with_reducible apply c_seq)
      | ((with_reducible apply c_region); kernel_rfl)
      | (with_reducible apply n_nq)
      | (with_reducible apply c_block)
      | (with_reducible apply c_scope)
      | (with_reducible apply c_label)
      | (with_reducible apply n_then))
  have hpw : Prs wq v sh := Prs.ex (show Ex w _ from (by repeat (first | exact Ex.refl _ | assumption | (refine Ex.of_grown ?_ (by assumption) (by intro k hk; cases hk; omega)) | (refine Ex.trans ?_ (by assumption))))) h
  have hb2k : Bx wq b2 [.int .i64 (k : Int)] 3 := by rw [show ((k : Nat) : Int) = (sh.length : Int) - (most : Int) by omega]; exact hbx2
  refine c_rangeAT (ps := [18]) (vs := fun x : CV => [x.2]) (B := w.heap.size) (gf := 92) (lb := #[.pointer (some ⟨b1, 0, none⟩), .pointer (some ⟨b2, 0, none⟩)]) (fun L x => upd (upd L 18 x.2) 8 x.2) rfl (enters_of Try.func92 (by kernel_rfl) rfl) (choices1_seq k v sh b1 b2 wq hpw (by omega) hl hbx1 hb2k) (fun x _ A A' row hT hg hr => TC.own hT hg hr) KC.refl (fun h k => KC.trans h k) (fun A i o o' hi hA ho _ => KC.put hA ho) (fun _ => rfl) (by repeat (first | assumption | exact Al.nil _ _ | ((with_reducible apply Al.grownS); assumption; (focus ((repeat (first | assumption | ((with_reducible apply Bx.grownS); assumption; (first | omega | exact Bx.ne (by assumption) (by omega))) | ((with_reducible apply Bx.below); assumption; omega) | ((with_reducible apply Bx.ex); assumption))); done))) | (refine Al.ex (by assumption) ?_))) (by omega)
      (SeI need b3 b6 b7 3 78 4 w) (SeX need k sh b6 b7 78 4 w) (SeI.own (by omega)) (fun c => SeX.own (by omega) c) ⟨by simp, (by repeat (first | assumption | ((with_reducible apply Bx.grownS); assumption; (first | omega | exact Bx.ne (by assumption) (by omega))) | ((with_reducible apply Bx.below); assumption; omega) | ((with_reducible apply Bx.ex); assumption))), (by repeat (first | assumption | ((with_reducible apply Bx.grownS); assumption; (first | omega | exact Bx.ne (by assumption) (by omega))) | ((with_reducible apply Bx.below); assumption; omega) | ((with_reducible apply Bx.ex); assumption))), (by repeat (first | assumption | ((with_reducible apply Bx.grownS); assumption; (first | omega | exact Bx.ne (by assumption) (by omega))) | ((with_reducible apply Bx.below); assumption; omega) | ((with_reducible apply Bx.ex); assumption))), (by repeat (first | assumption | exact Ex.refl _ | (refine Ex.trans ?_ (by assumption)) | (refine Ex.of_grown ?_ (by assumption) (by intro k hk; cases hk; omega))))⟩ ?assign ?body ?done ?stop
  case assign =>
    intro i x A K hK
    repeat' (first
        | ((first | ((with_reducible apply W_op); exact rfl; exact rfl)); (first | ((with_reducible apply r_assign); ((conv => lhs; whnf) <;> exact rfl))))
        | (with_reducible apply W_nil)
        | ((with_reducible apply c_region); kernel_rfl)
        | (with_reducible apply n_nq))
    exact ⟨_, rfl, hK⟩
  case body =>
    rintro i pre x A ⟨hno, hx3A, hx6A, hx7A, heA⟩ ⟨⟨hxl, hxs⟩, hxp⟩
    have hxo := hxp.one
    have hox := okS.sub hxs hs
    have hdx := Dist.sub hxs hd
    have hbne : b6 ≠ b7 := by omega
    have hszA := heA.size
    obtain ⟨N, hN⟩ : ∃ N, N = nwS need x.1 := ⟨_, rfl⟩
    have hnb : nbL N := by rw [hN]; unfold nwS newtonL; exact nsm_nb _ _ _
    have hag := agree_new hn.1 (show need ≤ x.1.length by omega) hox hdx
    rw [← hN] at hag
    obtain ⟨Dr, hDr⟩ : ∃ Dr, Dr = x.1.drop need := ⟨_, rfl⟩
    have hDl : Dr.length = x.1.length - need := by rw [hDr]; simp
    have hDg : ∀ j, Dr.getD j (0, 0) = x.1.getD (need + j) (0, 0) := fun j => by rw [hDr]; exact drop_get _ _ _
    have hth := fun w2 (e : Ex A w2) => through_any (takeV x.2 need) (x.1.take need) w2 (Prs.take (Prs.ex e hxp) (by omega)) (okS.take hox need) (by simp; omega) (by simp; omega)
    rw [show newtonL (kS (x.1.take need)) (vS (x.1.take need)) = N from hN.symm] at hth
    have hpd := fun w2 (e : Ex A w2) => Prs.drop (Prs.ex e hxp) (show need ≤ x.1.length by omega)
    rw [← hDr] at hpd
    have tkL : True := trivial
    repeat' (first
        | ((with_reducible apply W_op); exact rfl; exact rfl; exact r_takeP (i := need) (xs := x.1) rfl (Prs.ex (show Ex A _ from (by repeat (first | exact Ex.refl _ | assumption | (refine Ex.of_grown ?_ (by assumption) (by intro k hk; cases hk; omega)) | (refine Ex.trans ?_ (by assumption))))) hxp) rfl (by omega))
        | ((with_reducible apply W_op); exact rfl; exact rfl; exact r_dropP (i := need) (xs := x.1) rfl (Prs.ex (show Ex A _ from (by repeat (first | exact Ex.refl _ | assumption | (refine Ex.of_grown ?_ (by assumption) (by intro k hk; cases hk; omega)) | (refine Ex.trans ?_ (by assumption))))) hxp) rfl (by omega))
        | ((with_reducible apply W_op); exact rfl; exact rfl; exact r_lenPrs rfl (hpd _ (by repeat (first | exact Ex.refl _ | assumption | (refine Ex.of_grown ?_ (by assumption) (by intro k hk; cases hk; omega)) | (refine Ex.trans ?_ (by assumption))))))
        | (refine W_indexPr2 (i := j) (v := dropV x.2 need) (xs := Dr) rfl (hpd _ (by repeat (first | exact Ex.refl _ | assumption | (refine Ex.of_grown ?_ (by assumption) (by intro k hk; cases hk; omega)) | (refine Ex.trans ?_ (by assumption))))) rfl (by omega) ?_; intro pb po hpc hp0 hp1)
        | ((with_reducible apply W_op); exact rfl; exact rfl; exact r_mkIface rfl)
        | ((by_cases hjl : j = Dr.length; rotate_left 1; (focus (exfalso; omega; done))); clear tkS; (with_reducible apply W_store); exact rfl; (focus ((repeat (first | assumption | ((refine IntsK.exH (by assumption) ?_); (focus ((repeat (first | exact Ex.refl _ | assumption | (refine Ex.of_grown ?_ (by assumption) (by intro k hk; cases hk; omega)) | (refine Ex.trans ?_ (by assumption)))); done))) | ((refine Prs.exH (by assumption) ?_); (focus ((repeat (first | exact Ex.refl _ | assumption | (refine Ex.of_grown ?_ (by assumption) (by intro k hk; cases hk; omega)) | (refine Ex.trans ?_ (by assumption)))); done))) | ((with_reducible apply Bx.grownS); assumption; (first | omega | exact Bx.ne (by assumption) (by omega))) | ((with_reducible apply Bx.below); assumption; omega) | ((with_reducible apply OwnP.grownS); assumption; omega) | ((with_reducible apply Own.grownS); assumption; omega) | ((with_reducible apply Bx.ex); assumption) | ((with_reducible apply IntsK.ex); assumption) | ((with_reducible apply Own.ex); assumption) | ((with_reducible apply Prs.ex); assumption) | ((with_reducible apply OwnP.ex); assumption))); done)); exact Nat.le_of_ble_eq_true rfl; ((conv => lhs; whnf) <;> exact rfl); (first | exact rfl | assumption | exact IntsK.one (by assumption) | exact Prs.one (by assumption) | exact OwnP.one (by assumption) | exact Own.one (by assumption)); simp only [lset]; intro wq hbq hgq; have hexA0 := he; have hg6 := hgq; have hx6B := hbq; have tkT : True := trivial; have he : Ex w wq := (by repeat (first | assumption | exact Ex.refl _ | (refine Ex.trans ?_ (by assumption)) | (refine Ex.of_grown ?_ (by assumption) (by intro k hk; cases hk; omega)))); have hsz := he.size)
        | (clear tkT; (with_reducible apply W_store); exact rfl; (focus ((repeat (first | assumption | ((refine IntsK.exH (by assumption) ?_); (focus ((repeat (first | exact Ex.refl _ | assumption | (refine Ex.of_grown ?_ (by assumption) (by intro k hk; cases hk; omega)) | (refine Ex.trans ?_ (by assumption)))); done))) | ((refine Prs.exH (by assumption) ?_); (focus ((repeat (first | exact Ex.refl _ | assumption | (refine Ex.of_grown ?_ (by assumption) (by intro k hk; cases hk; omega)) | (refine Ex.trans ?_ (by assumption)))); done))) | ((with_reducible apply Bx.grownS); assumption; (first | omega | exact Bx.ne (by assumption) (by omega))) | ((with_reducible apply Bx.below); assumption; omega) | ((with_reducible apply OwnP.grownS); assumption; omega) | ((with_reducible apply Own.grownS); assumption; omega) | ((with_reducible apply Bx.ex); assumption) | ((with_reducible apply IntsK.ex); assumption) | ((with_reducible apply Own.ex); assumption) | ((with_reducible apply Prs.ex); assumption) | ((with_reducible apply OwnP.ex); assumption))); done)); exact Nat.le_of_ble_eq_true rfl; ((conv => lhs; whnf) <;> exact rfl); (first | exact rfl | assumption | exact IntsK.one (by assumption) | exact Prs.one (by assumption) | exact OwnP.one (by assumption) | exact Own.one (by assumption)); simp only [lset]; intro wq hbq hgq; have hg7 := hgq; have hx7B := hbq; have he : Ex w wq := (by repeat (first | assumption | exact Ex.refl _ | (refine Ex.trans ?_ (by assumption)) | (refine Ex.of_grown ?_ (by assumption) (by intro k hk; cases hk; omega)))); have hsz := he.size)
        | ((with_reducible (show C _ _ _ _ _ _)); clear tkL; refine c_loopG (fun (j : Nat) ps wr => ∃ rv : Value, ∃ i2 : Int, ps = [(6, .pointer (some ⟨b6, 0, none⟩)), (7, .pointer (some ⟨b7, 0, none⟩)), (9, rv), (25, dropV x.2 need), (26, .int .i64 Dr.length), (27, .int .i64 i2)] ∧ i2 = j ∧ j ≤ Dr.length ∧ (∀ i, i < j → atP N (Dr.getD i (0, 0)).1 = (Dr.getD i (0, 0)).2) ∧ Ints wr rv N ∧ Ex A wr) (fun j => Dr.length - j) 0 _ ⟨_, _, rfl, rfl, Nat.zero_le _, fun i hi => absurd hi (Nat.not_lt_zero i), (IntsK.ex (by repeat (first | exact Ex.refl _ | assumption | (refine Ex.of_grown ?_ (by assumption) (by intro k hk; cases hk; omega)) | (refine Ex.trans ?_ (by assumption)))) hiN), (by repeat (first | exact Ex.refl _ | assumption | (refine Ex.of_grown ?_ (by assumption) (by intro k hk; cases hk; omega)) | (refine Ex.trans ?_ (by assumption))))⟩ ⟨rfl, rfl, rfl, rfl, rfl, rfl, trivial⟩ (by ((conv => lhs; whnf) <;> exact rfl)) (by ((conv => lhs; whnf) <;> exact rfl)) ?_; rintro J hJ j u ps wr ⟨rv, i2, rfl, rfl, hj, hall, hiN, he⟩; have hsz := he.size; have tkS : True := trivial)
        | ((first | ((with_reducible apply W_op); exact rfl; exact rfl)); (first | ((with_reducible apply r_move); ((conv => lhs; whnf) <;> exact rfl)) | ((with_reducible apply r_assign); ((conv => lhs; whnf) <;> exact rfl)) | ((with_reducible apply r_load); exact rfl; exact rfl; (first | assumption | exact (Bx.cell (by repeat (first | assumption | ((with_reducible apply Bx.grownS); assumption; (first | omega | exact Bx.ne (by assumption) (by omega))) | ((with_reducible apply Bx.below); assumption; omega) | ((with_reducible apply Bx.ex); assumption))) _).trans rfl | exact Ex.cell (by assumption) (by assumption))) | ((with_reducible apply r_loadA); exact rfl; (first | assumption | exact Bx.cells (by repeat (first | assumption | ((with_reducible apply Bx.grownS); assumption; (first | omega | exact Bx.ne (by assumption) (by omega))) | ((with_reducible apply Bx.below); assumption; omega) | ((with_reducible apply Bx.ex); assumption))) | exact Cells.ex (by assumption) (by assumption)); exact rfl) | ((with_reducible apply r_lss); exact rfl; exact rfl) | ((with_reducible apply r_add); exact rfl; exact rfl; omega) | ((with_reducible apply r_not); exact rfl)))
        | (refine W_call (hth _ (by repeat (first | exact Ex.refl _ | assumption | (refine Ex.of_grown ?_ (by assumption) (by intro k hk; cases hk; omega)) | (refine Ex.trans ?_ (by assumption))))) rfl ?_; rintro vq wq hiN he; have hsz := he.size; have hiN1 := hiN.one)
        | (refine W_callv (liesOn_any (.iface 78 rv) (atP N) (Dr.getD j (0, 0)).1 (Dr.getD j (0, 0)).2 _ (curve_poly (IntsK.ex (by repeat (first | exact Ex.refl _ | assumption | (refine Ex.of_grown ?_ (by assumption) (by intro k hk; cases hk; omega)) | (refine Ex.trans ?_ (by assumption)))) hiN) hnb) (by rw [hDg]; exact (hox _).1)) rfl (fun wq he => ?_); have hsz := he.size)
        | ((with_reducible (show Exit.then _ _ _ _ _)); refine n_roundG (j + 1) (hJ _ _ _ _ ⟨_, _, rfl, (by omega), (by omega), (allP_next (p := fun i => atP N (Dr.getD i (0, 0)).1 = (Dr.getD i (0, 0)).2) hall (by first | assumption | exact Classical.not_not.1 (by assumption))), (IntsK.ex (by repeat (first | exact Ex.refl _ | assumption | (refine Ex.of_grown ?_ (by assumption) (by intro k hk; cases hk; omega)) | (refine Ex.trans ?_ (by assumption)))) hiN), (by repeat (first | exact Ex.refl _ | assumption | (refine Ex.of_grown ?_ (by assumption) (by intro k hk; cases hk; omega)) | (refine Ex.trans ?_ (by assumption))))⟩ ⟨rfl, rfl, rfl, rfl, rfl, rfl, trivial⟩ rfl) (by omega))
        | (with_reducible apply W_nil)
        | ((with_reducible apply W_alloc); exact rfl; intro bq wq hbq he hnq; have hltq := Bx.lt hbq; have hsz := he.size)
        | ((with_reducible apply W_storeA); exact rfl; (focus ((repeat (first | assumption | ((with_reducible apply Bx.grownS); assumption; (first | omega | exact Bx.ne (by assumption) (by omega))) | ((with_reducible apply Bx.below); assumption; omega) | ((with_reducible apply Bx.ex); assumption))); done)); exact rfl; exact rfl; exact rfl; (repeat' (first | exact trivial | (first | exact rfl | assumption | exact IntsK.one (by assumption) | exact Prs.one (by assumption) | exact OwnP.one (by assumption) | exact Own.one (by assumption)) | constructor)); intro wq hbq hgq; have he : Ex w wq := (by repeat (first | assumption | exact Ex.refl _ | (refine Ex.trans ?_ (by assumption)) | (refine Ex.of_grown ?_ (by assumption) (by intro k hk; cases hk; omega)))); have hsz := he.size; have hgz := hgq.size)
        | (with_reducible apply c_seq)
        | ((with_reducible apply c_region); kernel_rfl)
        | (with_reducible apply n_nq)
        | (with_reducible apply c_block)
        | (with_reducible apply c_skip)
        | (with_reducible apply c_ret)
        | (with_reducible apply c_exit)
        | ((with_reducible apply c_cond_dec); exact rfl; intro _; rotate_left 1; intro _)
        | (with_reducible apply n_then)
        | (with_reducible apply n_block)
        | (with_reducible apply e_then)
        | (with_reducible apply e_block)
        | (with_reducible apply r_block)
        | ((with_reducible apply e_block'); decide))
    all_goals first
      | (show KeepsOthers _ _ ∧ SeX _ _ _ _ _ _ _ _ _ _ _
         have hexA : Ex A wr := hexA0
         exact ⟨((keeps_of_ex hexA).trans (keeps_gr hg6 (hx6A.ex hexA))).trans (keeps_gr hg7 ((hx7A.ex hexA).grownS hg6 (by omega))), rfl, rv, x.1, ⟨⟨hxl, hxs⟩, hag.2 fun i hi => by rw [← hDg]; exact hall i (by omega)⟩, hx6B.grownS hg7 (by omega), by rw [← hN]; exact Ints.store (Ints.store hiN (hx6A.ex hexA) (by intro n e; cases e) hg6) ((hx7A.ex hexA).grownS hg6 (by omega)) (by intro n e; cases e) hg7, hx7B, (by repeat (first | assumption | exact Ex.refl _ | (refine Ex.trans ?_ (by assumption)) | (refine Ex.of_grown ?_ (by assumption) (by intro k hk; cases hk; omega))))⟩)
      | skip
    all_goals (
         show KeepsOthers _ _ ∧ KC _ _ ∧ SeI _ _ _ _ _ _ _ _ _ _
         have hexA : Ex A wq := (by repeat (first | exact Ex.refl _ | assumption | (refine Ex.of_grown ?_ (by assumption) (by intro k hk; cases hk; omega)) | (refine Ex.trans ?_ (by assumption))))
         refine ⟨keeps_of_ex hexA, KC.ex hexA, fun y hy => ?_, hx3A.ex hexA, hx6A.ex hexA, hx7A.ex hexA, (by repeat (first | assumption | exact Ex.refl _ | (refine Ex.trans ?_ (by assumption)) | (refine Ex.of_grown ?_ (by assumption) (by intro k hk; cases hk; omega))))⟩
         rcases List.mem_append.1 hy with hy | hy
         · exact hno y hy
         · have hyx : y = x := by simpa using hy
           subst hyx
           intro hf
           have hfj := hag.1 hf j (by omega)
           rw [← hDg] at hfj
           exact absurd hfj (by assumption))
  case done =>
    rintro D xs A hD hS hI halA
    obtain ⟨hno, hx3A, hx6A, hx7A, heA⟩ := hI
    have hall : ∀ c, ¬ FoundC need k sh c := by
      rintro c ⟨⟨h1, h2⟩, h3⟩
      obtain ⟨u, hu⟩ := hS c h2 h1
      exact hno _ hu h3
    repeat' (first
        | (with_reducible apply W_nil)
        | ((with_reducible apply W_store); exact rfl; (focus ((repeat (first | assumption | ((with_reducible apply Bx.grownS); assumption; (first | omega | exact Bx.ne (by assumption) (by omega))) | ((with_reducible apply Bx.below); assumption; omega) | ((with_reducible apply Bx.ex); assumption))); done)); exact Nat.le_of_ble_eq_true rfl; ((conv => lhs; whnf) <;> exact rfl); (first | exact rfl | assumption | exact IntsK.one (by assumption) | exact Prs.one (by assumption) | exact OwnP.one (by assumption) | exact Own.one (by assumption)); simp only [lset]; intro wq hbq hgq; have he : Ex w wq := (by repeat (first | assumption | exact Ex.refl _ | (refine Ex.trans ?_ (by assumption)) | (refine Ex.of_grown ?_ (by assumption) (by intro k hk; cases hk; omega)))); have hsz := he.size; have hgz := hgq.size)
        | (with_reducible apply c_seq)
        | ((with_reducible apply c_region); kernel_rfl)
        | (with_reducible apply n_nq)
        | (with_reducible apply c_ret)
        | (with_reducible apply n_then)
        | (with_reducible apply n_block)
        | (with_reducible apply r_scope))
    exact m_retcc (by repeat (first | assumption | exact Al.nil _ _ | ((with_reducible apply Al.grownS); assumption; (focus ((repeat (first | assumption | ((with_reducible apply Bx.grownS); assumption; (first | omega | exact Bx.ne (by assumption) (by omega))) | ((with_reducible apply Bx.below); assumption; omega) | ((with_reducible apply Bx.ex); assumption))); done))) | (refine Al.ex (by assumption) ?_))) rfl inferInstance rfl inferInstance rfl rfl rfl (show Bx _ b6 [.slice none 0 0] 78 from (by repeat (first | assumption | ((with_reducible apply Bx.grownS); assumption; (first | omega | exact Bx.ne (by assumption) (by omega))) | ((with_reducible apply Bx.below); assumption; omega) | ((with_reducible apply Bx.ex); assumption)))) (show Bx _ b7 [.bool false] 4 from (by repeat (first | assumption | ((with_reducible apply Bx.grownS); assumption; (first | omega | exact Bx.ne (by assumption) (by omega))) | ((with_reducible apply Bx.below); assumption; omega) | ((with_reducible apply Bx.ex); assumption)))) ⟨_, rfl, ⟨_, _, rfl, .inr ⟨rfl, hall⟩⟩, (shut_grown _ _ (by repeat (first | assumption | exact Al.nil _ _ | ((with_reducible apply Al.grownS); assumption; (focus ((repeat (first | assumption | ((with_reducible apply Bx.grownS); assumption; (first | omega | exact Bx.ne (by assumption) (by omega))) | ((with_reducible apply Bx.below); assumption; omega) | ((with_reducible apply Bx.ex); assumption))); done))) | (refine Al.ex (by assumption) ?_))) (by repeat (first | assumption | exact Ex.refl _ | (refine Ex.trans ?_ (by assumption)) | (refine Ex.of_grown ?_ (by assumption) (by intro k hk; cases hk; omega)))) (Nat.le_refl _))⟩
  case stop =>
    rintro D c pre A hD _ ⟨rfl, u, ch, hf, hx6A, hu, hx7A, heA⟩ halA
    repeat' (first
        | (with_reducible apply c_ret)
        | (with_reducible apply r_then)
        | (with_reducible apply r_block)
        | (with_reducible apply r_scope))
    exact m_retcc halA rfl inferInstance rfl inferInstance rfl rfl rfl hx6A hx7A ⟨_, rfl, ⟨_, _, rfl, .inl ⟨rfl, ch, hf, Ints.kc (KC.shut halA) hu⟩⟩, (shut_grown _ _ (by repeat (first | assumption | exact Al.nil _ _ | ((with_reducible apply Al.grownS); assumption; (focus ((repeat (first | assumption | ((with_reducible apply Bx.grownS); assumption; (first | omega | exact Bx.ne (by assumption) (by omega))) | ((with_reducible apply Bx.below); assumption; omega) | ((with_reducible apply Bx.ex); assumption))); done))) | (refine Al.ex (by assumption) ?_))) (by repeat (first | assumption | exact Ex.refl _ | (refine Ex.trans ?_ (by assumption)) | (refine Ex.of_grown ?_ (by assumption) (by intro k hk; cases hk; omega)))) (Nat.le_refl _))⟩
end Go.Proofs.Ytngoipmdhliigaa
