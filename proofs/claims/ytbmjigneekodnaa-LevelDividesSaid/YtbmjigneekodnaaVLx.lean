/-
  (rows) What this text proves: divisions of a coding as lists; slices.Clone of a list of numbers. Conditions: as stated in each.
-/
import Derived.Test.YtbmjigneekodnaaVLw
set_option linter.unusedVariables false
set_option linter.unusedSimpArgs false

namespace Go.Pv
open Go.RowKit
/-- A division as it lies in memory: its slice, the list that it holds, its error. -/
abbrev DV := Value × List Int × (Int × Int)
def dC (d : DV) : List Value := [d.1, .int .i64 d.2.2.1, .int .i64 d.2.2.2]
abbrev dD : DV := (.slice none 0 0, [], (0, 0))
theorem dC_len (d : DV) : (dC d).length = 3 := rfl
def dV (d : DV) : Value := .agg #[d.1, .int .i64 d.2.2.1, .int .i64 d.2.2.2]
def divsAt (E base : Nat) (w : World) (ds : List DV) : Prop := ∀ i, i < ds.length → Own E base w (ds.getD i dD).1 (ds.getD i dD).2.1
theorem divsAt.ex {E base : Nat} {w w' : World} {ds : List DV} (e : Ex w w') (h : divsAt E base w ds) : divsAt E base w' ds := fun i hi => (h i hi).ex e
/-- The greater one of two fractions, the first one if they are equal. -/
def fMax (f g : Int × Int) : Int × Int := if fLt f g then g else f
theorem fMax_ok {f g : Int × Int} (hf : fOk f) (hg : fOk g) : fOk (fMax f g) := by
  unfold fMax; split <;> assumption
/-- A division of the first codes among players, and its error. -/
inductive DivE (l : List T3) : Nat → Nat → List Int → Int × Int → Prop
  | one {t : Nat} {f : Int × Int} : 1 ≤ t → t ≤ l.length → bestIs (secL l 0 t) f → DivE l 1 t [0] f
  | more {p t s : Nat} {S : List Int} {g h : Int × Int} : DivE l p s S g → s < t → t ≤ l.length → bestIs (secL l s t) h → DivE l (p + 1) t (S ++ [(s : Int)]) (fMax g h)
theorem DivE.bd {l : List T3} {p t : Nat} {S : List Int} {f : Int × Int} (hv : Valid l) (h : DivE l p t S f) : (1 ≤ p ∧ p ≤ t ∧ t ≤ l.length) ∧ S.length = p ∧ fOk f := by
  induction h with
  | one h1 h2 h3 => exact ⟨by omega, rfl, best_ok (valid_sec hv h1 h2) h3⟩
  | more h1 h2 h3 h4 ih => exact ⟨by omega, by simp [ih.2.1], fMax_ok ih.2.2 (best_ok (valid_sec hv h2 h3) h4)⟩
/-- A best one. -/
def bestDiv (l : List T3) (p t : Nat) (S : List Int) (f : Int × Int) : Prop := DivE l p t S f ∧ ∀ S' f', DivE l p t S' f' → ¬ fLt f' f
theorem fLt_trans2 {p q x : Int × Int} (hp : 1 ≤ p.2) (hq : 1 ≤ q.2) (hx : 1 ≤ x.2) (h1 : ¬ fLt p q) (h2 : ¬ fLt q x) : ¬ fLt p x := by
  intro h
  exact fLt_le hp hq hx h h1 (by
    unfold fLt at *
    by_cases e : x.1 * q.2 < q.1 * x.2
    · exact e
    · have hxq : x.1 * q.2 = q.1 * x.2 := by omega
      have a1 := Int.mul_lt_mul_of_pos_right h (show 0 < q.2 by omega)
      have a2 := Int.mul_le_mul_of_nonneg_right (Int.not_lt.1 h1) (show 0 ≤ x.2 by omega)
      have e1 : p.1 * x.2 * q.2 = p.1 * q.2 * x.2 := by ac_rfl
      have e2 : x.1 * p.2 * q.2 = x.1 * q.2 * p.2 := by ac_rfl
      have e3 : q.1 * p.2 * x.2 = q.1 * x.2 * p.2 := by ac_rfl
      rw [hxq] at e2
      omega)
theorem fMax_le {f g f' g' : Int × Int} (h1 : 1 ≤ f.2) (h2 : 1 ≤ g.2) (h3 : 1 ≤ f'.2) (h4 : 1 ≤ g'.2) (hf : ¬ fLt f' f) (hg : ¬ fLt g' g) : ¬ fLt (fMax f' g') (fMax f g) := by
  have asym : ∀ {a b : Int × Int}, fLt a b → ¬ fLt b a := fun h => by unfold fLt at *; omega
  unfold fMax
  by_cases c1 : fLt f' g' <;> by_cases c2 : fLt f g <;> simp only [c1, c2, if_true, if_false]
  · exact hg
  · exact fLt_trans2 h4 h3 h1 (asym c1) hf
  · exact fLt_trans2 h3 h4 h2 c1 hg
  · exact hf
theorem best_le {l : List T3} {f g : Int × Int} (h : bestIs l f) (h' : bestIs l g) : ¬ fLt f g := by
  obtain ⟨⟨p, hp, rfl⟩, _⟩ := h'
  exact h.2 p hp
/-- The best of all last starts. -/
theorem div_step {l : List T3} (hv : Valid l) {p t : Nat} {W : Nat → List Int × (Int × Int)} {H : Nat → Int × Int} {s : Nat} (ht : t ≤ l.length) (hW : ∀ s, p ≤ s → s < t → bestDiv l p s (W s).1 (W s).2) (hH : ∀ s, p ≤ s → s < t → bestIs (secL l s t) (H s)) (hs : p ≤ s ∧ s < t) (hall : ∀ r, p ≤ r → r < t → ¬ fLt (fMax (W r).2 (H r)) (fMax (W s).2 (H s))) : bestDiv l (p + 1) t ((W s).1 ++ [(s : Int)]) (fMax (W s).2 (H s)) := by
  refine ⟨DivE.more (hW s hs.1 hs.2).1 hs.2 ht (hH s hs.1 hs.2), fun S' f' h => ?_⟩
  generalize hp1 : p + 1 = p1 at h
  cases h with
  | one h1 h2 h3 =>
    obtain rfl : p = 0 := by omega
    exact absurd (DivE.bd hv (hW s hs.1 hs.2).1).1 (by omega)
  | @more p' t' r S g h h1 h2 h3 h4 =>
    obtain rfl : p = p' := by omega
    have hb := DivE.bd hv h1
    have hr : p ≤ r := hb.1.2.1
    have k1 := (hW r hr h2).2 _ _ h1
    have k2 := best_le h4 (hH r hr h2)
    have o1 := (DivE.bd hv (hW r hr h2).1).2.2
    have o2 := best_ok (valid_sec hv h2 ht) (hH r hr h2)
    have o3 := best_ok (valid_sec hv h2 ht) h4
    have o4 := (DivE.bd hv (hW s hs.1 hs.2).1).2.2
    have o5 := best_ok (valid_sec hv hs.2 ht) (hH s hs.1 hs.2)
    exact fLt_trans2 (fMax_ok hb.2.2 o3).2.1 (fMax_ok o1 o2).2.1 (fMax_ok o4 o5).2.1 (fMax_le o1.2.1 o2.2.1 hb.2.2.2.1 o3.2.1 k1 k2) (hall r hr h2)
theorem div_one {l : List T3} {t : Nat} {f : Int × Int} (h1 : 1 ≤ t) (h2 : t ≤ l.length) (h3 : bestIs (secL l 0 t) f) : bestDiv l 1 t [0] f := by
  refine ⟨DivE.one h1 h2 h3, fun S' f' h => ?_⟩
  generalize hp1 : 1 = p1 at h
  cases h with
  | one k1 k2 k3 => exact best_le k3 h3
  | @more p' t' r S g h k1 k2 k3 k4 =>
    obtain rfl : p' = 0 := by omega
    cases k1
/-- A store of an aggregate into the middle of a box. -/
theorem W_storeMid {P : Program} {ol rest : List Oper} {Q : Exit → Act → World → Prop} {l : St} {w : World} {ty : TypeId} {pos : String} {af : Array Edge} {b o n : Nat} {x y : Operand} {T T' : TypeId} {bytes : Nat} {z : Value} {pre c post cs : List Value} [hz : Sz P T z n bytes] (hx : ev l x = .pointer (some ⟨b, o, none⟩)) (hy : ev l y = .agg cs.toArray) (ho : o = pre.length) (hb : Bx w b (pre ++ (c ++ post)) T') (hl : cs.length = c.length) (hn : cs.length = n) (hone : ∀ u ∈ cs, u.oneCell' = true)
    (K : ∀ w', Bx w' b (pre ++ (cs ++ post)) T' → w.grownBy w' (some b) → W P ol Q rest l w') : W P ol Q (⟨none, .store T x y, ty, pos, af, none⟩ :: rest) l w := by
  subst ho
  obtain ⟨w', h1, h2, h3⟩ := run_storeCells_mid P b pre.length T' cs 0 pre c post w rfl hb hl hone
  refine W_skp (w' := w') rfl rfl ?_ (K _ h2 h3)
  simp [execOp, hx, hy, Instr.storeAt, Instr.sureAddr, storeVar, hz.run, Value.cells, hn, h1]
theorem r_nilChk {P : Program} {l : St} {w : World} {od : Option Nat} {ty : TypeId} {pos : String} {af : Array Edge} {x : Operand} {a : Addr} (hx : ev l x = .pointer (some a)) : Runs P ⟨od, .nilCheck x, ty, pos, af, none⟩ l w (.pointer (some a)) := by
  simp [Runs, execOp, hx]
end Go.Pv
namespace Go.Proofs.Ytbmjigneekodnaa
open Go.Pv Go.RowKit
set_option maxHeartbeats 8000000
set_option maxRecDepth 20000

theorem clone_any (v : Value) (xs : List Int) (base : Nat) (w : World) (h : Pv.Own 3 base w v xs) (hn : 1 ≤ xs.length ∧ xs.length ≤ 1000) : Ret Try.prog 81 [v] w fun r w' => Pv.Own 3 w.heap.size w' r xs := by
  have hi := Pv.Own.ints h
  have hv1 := hi.one
  obtain ⟨a, n, c, hv⟩ : ∃ a n c, v = .slice (some a) n c := by
    have h0 := h
    unfold Pv.Own at h0
    rcases h0.2.2 with ⟨_, h2⟩ | ⟨g, cap, cur, h2, _⟩
    · have : xs = [] := by cases xs <;> simp_all
      subst this; simp at hn
    · exact ⟨_, _, _, h2⟩
  have kA : True := trivial
  refine ret_of_c Try.func81 rfl Try.ntmps81 (Nat.le_of_ble_eq_true rfl) (by dsimp only [ini, Nat.reduceAdd] <;> exact rfl) ?_
  repeat' (first
      | ((with_reducible apply W_op); exact rfl; exact rfl; exact r_eqNil hv)
      | ((first | ((with_reducible apply W_op); exact rfl; exact rfl)); (first | ((with_reducible apply r_move); ((conv => lhs; whnf) <;> exact rfl)) | ((with_reducible apply r_assign); ((conv => lhs; whnf) <;> exact rfl)) | ((with_reducible apply r_eql); exact rfl; exact rfl) | ((with_reducible apply r_eqlb); exact rfl; exact rfl)))
      | (clear kA; (with_reducible apply W_bs0); intro b0c wq hbc he hnq; have hsz := he.size; rw [← hnq] at hbc; have hltb := (OwnV.lt hbc b0c rfl).2; have kC1 : True := trivial)
      | (clear kC1; refine W_appendVs (w0 := w) (v := .slice (some ⟨b0c, 0, none⟩) 0 0) (base := b0c) rfl rfl hbc rfl (Ints.vals (IntsK.ex (by repeat (first | assumption | exact Ex.refl _ | (refine Ex.trans ?_ (by assumption)) | (refine Ex.of_grown ?_ (by assumption) (by intro k hk; cases hk; omega)))) hi)) (fun q hq => by obtain ⟨z, -, rfl⟩ := List.mem_map.1 hq; rfl) (by rw [List.length_map]; omega) (by rw [List.length_map]; simp only [List.length_nil]; omega) (by repeat (first | assumption | exact Ex.refl _ | (refine Ex.trans ?_ (by assumption)) | (refine Ex.of_grown ?_ (by assumption) (by intro k hk; cases hk; omega)))) (by omega) (by omega) ?_; intro va wq hoa hel hbw hg2 hbl2; rw [List.nil_append] at hoa; have he : Ex w wq := hel; have hsz := he.size; have hva1 := OwnV.one hoa)
      | (with_reducible apply W_nil)
      | ((with_reducible apply W_bsP); exact rfl; exact rfl; intro bq wq hbq he hnq; have hltq := Bx.lt hbq; have hsz := he.size)
      | (with_reducible apply c_seq)
      | (with_reducible apply c_region)
      | (with_reducible apply c_skip)
      | (with_reducible apply c_ret)
      | ((with_reducible apply c_cond_true); exact rfl)
      | ((with_reducible apply c_cond_false); exact rfl)
      | ((with_reducible apply c_cond_dec); exact rfl; intro _; rotate_left 1; intro _)
      | ((with_reducible apply c_cond_bool); exact rfl; intro _; rotate_left 1; intro _)
      | (with_reducible apply n_then)
      | (with_reducible apply e_then)
      | (with_reducible apply r_then)
      | ((with_reducible apply p_ret1); exact rfl; ((conv => lhs; whnf) <;> exact rfl); refine ⟨_, rfl, ?_, (by repeat (first | assumption | exact Ex.refl _ | (refine Ex.trans ?_ (by assumption)) | (refine Ex.of_grown ?_ (by assumption) (by intro k hk; cases hk; omega))))⟩)
      | ((with_reducible apply q_ret1); exact rfl; ((conv => lhs; whnf) <;> exact rfl); refine ⟨_, rfl, ?_, (by repeat (first | assumption | exact Ex.refl _ | (refine Ex.trans ?_ (by assumption)) | (refine Ex.of_grown ?_ (by assumption) (by intro k hk; cases hk; omega))))⟩)
      | ((with_reducible apply p_retct); exact rfl; exact inferInstance; exact inferInstance; exact rfl; (focus ((repeat (first | assumption | ((with_reducible apply Bx.grownS); assumption; (first | omega | exact Bx.ne (by assumption) (by omega))) | ((with_reducible apply Bx.below); assumption; omega) | ((with_reducible apply Bx.ex); assumption))); done)); exact rfl; exact rfl; refine ⟨_, rfl, ?_, (by repeat (first | assumption | exact Ex.refl _ | (refine Ex.trans ?_ (by assumption)) | (refine Ex.of_grown ?_ (by assumption) (by intro k hk; cases hk; omega))))⟩)
      | ((exfalso; omega)))
  exact Pv.Own.mono (Pv.Own.ofV (OwnV.ex (by repeat (first | assumption | exact Ex.refl _ | (refine Ex.trans ?_ (by assumption)) | (refine Ex.of_grown ?_ (by assumption) (by intro k hk; cases hk; omega)))) hoa) rfl) (by omega)
end Go.Proofs.Ytbmjigneekodnaa
