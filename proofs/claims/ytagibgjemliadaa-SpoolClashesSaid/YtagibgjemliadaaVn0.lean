/-
  What this text proves: what a reel makes, and where the paper is tick by tick. Conditions: bytes are bytes.
-/
import Derived.Test.YtagibgjemliadaaVl
set_option linter.unusedVariables false
set_option linter.unusedSimpArgs false

namespace Go.Pv
/-- Where the paper is at the first m ticks. -/
def papL (co ti g : Int) (m : Nat) : List Int := (List.range m).map fun (i : Nat) => plOf co ti g i
theorem pap_len (co ti g : Int) (m : Nat) : (papL co ti g m).length = m := by simp [papL]
theorem pap_succ (co ti g : Int) (m : Nat) : papL co ti g (m + 1) = papL co ti g m ++ [plOf co ti g m] := by simp [papL, List.range_succ]
theorem pap_get (co ti g : Int) {m i : Nat} (h : i < m) : (papL co ti g m).getD i 0 = plOf co ti g i := by simp [papL, h]
theorem pl_at {co ti g : Int} {n r : Int} (hi : 1 ≤ ti) (hn : 0 ≤ n) (hr : 0 ≤ r ∧ r < ti) : plOf co ti g (n * ti + r) = lenOf co g n + (co + n * g) * r / ti := by
  have h1 : (n * ti + r) / ti = n := by
    rw [Int.add_comm, Int.add_mul_ediv_right _ _ (by omega), Int.ediv_eq_zero_of_lt hr.1 hr.2]; omega
  have h2 : (n * ti + r) % ti = r := by
    rw [Int.add_comm, Int.add_mul_emod_self_right, Int.emod_eq_of_lt hr.1 hr.2]
  unfold plOf
  rw [h1, h2]
theorem pap_facts {co ti g T : Int} {n q m : Nat} (hi : 1 ≤ ti ∧ ti ≤ 20) (hc : ti ≤ co ∧ co ≤ 99) (hg : 0 ≤ g ∧ g ≤ 40) (hm : (m : Int) = n * ti) (hmT : (m : Int) < T) (hT : T ≤ 300) (hq : (q : Int) ≤ ti) :
    (n : Int) ≤ 300 ∧ (0 ≤ lenOf co g n ∧ lenOf co g n ≤ 600000000) ∧ (0 ≤ (n : Int) * g ∧ (n : Int) * g ≤ 12000) ∧ (0 ≤ (co + n * g) * q ∧ (co + n * g) * q ≤ 300000) ∧ (0 ≤ ((co + n * g) * q).tdiv ti ∧ ((co + n * g) * q).tdiv ti ≤ 300000) := by
  have h1 : (n : Int) * 1 ≤ n * ti := Int.mul_le_mul_of_nonneg_left hi.1 (by omega)
  have hn : (n : Int) ≤ 300 := by omega
  have h2 := (len_bd (co := co) (g := g) (n := n) (by omega) (by omega) (by omega)).2.2.2
  have h3 := mul_bd (a := (n : Int)) (b := g) (A := 300) (B := 40) (by omega) hg
  have h4 := mul_bd (a := co + n * g) (b := (q : Int)) (A := 15000) (B := 20) (by omega) (by omega)
  have h5 := ediv_bd ((co + n * g) * q) ti hi.1 300000 (by omega)
  have h6 := Int.ediv_nonneg h4.1 (show 0 ≤ ti by omega)
  rw [Int.tdiv_eq_ediv_of_nonneg h4.1]
  exact ⟨hn, h2, ⟨h3.1, by omega⟩, ⟨h4.1, by omega⟩, h6, h5.2⟩
theorem pap_el {co ti g : Int} {n q m : Nat} (hi : 1 ≤ ti) (hm : (m : Int) = n * ti) (hq : (q : Int) < ti) (h0 : 0 ≤ (co + n * g) * q) : plOf co ti g ((m + q : Nat) : Int) = lenOf co g n + ((co + n * g) * q).tdiv ti := by
  rw [Int.tdiv_eq_ediv_of_nonneg h0, ← pl_at hi (by omega) ⟨by omega, hq⟩, Int.natCast_add, hm]
theorem pap_next {E : TypeId} {base : Nat} {w : World} {r : Value} {co ti g wd tn : Int} {n q m : Nat} (h : Pv.Own E base w r (papL co ti g (m + q) ++ [wd + (tn * q).tdiv ti])) (hi : 1 ≤ ti) (hm : (m : Int) = n * ti) (hq : (q : Int) < ti) (hwd : wd = lenOf co g n) (htn : tn = co + n * g) (h0 : 0 ≤ tn * q) : Pv.Own E base w r (papL co ti g (m + (q + 1))) := by
  subst hwd; subst htn
  rw [← pap_el hi hm hq h0, ← pap_succ] at h
  exact h
end Go.Pv
namespace Go.Proofs.Ytagibgjemliadaa
open Go.Pv Go.RowKit
set_option maxHeartbeats 8000000

/-- What is known of a reel's spool. -/
def Reel (co ti lo hi : Int) : Prop := (1 ≤ ti ∧ ti ≤ 20) ∧ (ti ≤ co ∧ co ≤ 99) ∧ (0 ≤ lo ∧ lo ≤ 29) ∧ lo ≤ hi ∧ hi ≤ lo + 5
section
variable {P : Program} {l : St} {w : World} {od : Option Nat} {ty : TypeId} {pos : String} {af : Array Edge}
theorem r_remX {x y : Operand} {T T2 : TypeId} {m n v : Int} (hx : ev l x = .int .i64 m) (hy : ev l y = .int .i64 n) (hn : 1 ≤ n) (hm : 0 ≤ m) (h : m % n = v) : Runs P ⟨od, .binOp .rem T x y T2, ty, pos, af, none⟩ l w (.int .i64 v) := h ▸ r_remE hx hy hn hm
end
theorem made_any (c t g0 g1 : Int) (w : World) (hc : 0 ≤ c ∧ c ≤ 255) (ht : 0 ≤ t ∧ t ≤ 255) (h0 : 0 ≤ g0 ∧ g0 ≤ 255) (h1 : 0 ≤ g1 ∧ g1 ≤ 255) : Ret Try.prog 42 [.agg #[.int .u8 c, .int .u8 t, .int .u8 g0, .int .u8 g1]] w fun r _ => ∃ co ti lo hi, r = .agg #[.int .i64 co, .int .i64 ti, .int .i64 lo, .int .i64 hi] ∧ Reel co ti lo hi := by
  obtain ⟨x1, e1, k1⟩ : ∃ x, t % 20 = x ∧ 0 ≤ x ∧ x ≤ 19 := ⟨_, rfl, by omega⟩
  obtain ⟨x2, e2, k2⟩ : ∃ x, g0 % 30 = x ∧ 0 ≤ x ∧ x ≤ 29 := ⟨_, rfl, by omega⟩
  obtain ⟨x3, e3, k3⟩ : ∃ x, c % 80 = x ∧ 0 ≤ x ∧ x ≤ 79 := ⟨_, rfl, by omega⟩
  obtain ⟨x4, e4, k4⟩ : ∃ x, g1 % 6 = x ∧ 0 ≤ x ∧ x ≤ 5 := ⟨_, rfl, by omega⟩
  have c1 := hc.1
  have c2 := ht.1
  have c3 := h0.1
  have c4 := h1.1
  refine ret_of_c Try.func42 rfl Try.ntmps42 (Nat.le_of_ble_eq_true rfl) (by dsimp only [ini, Nat.reduceAdd] <;> exact rfl) ?_
  repeat' (first
      | ((with_reducible apply W_op); exact rfl; exact rfl; (first | exact r_remX rfl rfl (by decide) c1 e3 | exact r_remX rfl rfl (by decide) c2 e1 | exact r_remX rfl rfl (by decide) c3 e2 | exact r_remX rfl rfl (by decide) c4 e4))
      | ((with_reducible apply W_op); exact rfl; exact rfl; (first | exact r_conv8 rfl hc | exact r_conv8 rfl ht | exact r_conv8 rfl h0 | exact r_conv8 rfl h1))
      | ((with_reducible apply W_op); exact rfl; exact rfl; exact r_bldC (by kernel_rfl) rfl rfl rfl rfl rfl)
      | ((with_reducible apply W_op); exact rfl; exact rfl; exact r_indexArr (i := 0) rfl rfl (by decide))
      | ((with_reducible apply W_op); exact rfl; exact rfl; exact r_indexArr (i := 1) rfl rfl (by decide))
      | ((first | ((with_reducible apply W_op); exact rfl; exact rfl)); (first | ((with_reducible apply r_conv8); exact rfl; omega) | ((with_reducible apply r_conv16); exact rfl; omega) | ((with_reducible apply r_remE); exact rfl; exact rfl; omega; omega) | ((with_reducible apply r_indexArr); exact rfl; exact rfl; omega) | ((with_reducible apply r_move); ((conv => lhs; whnf) <;> exact rfl)) | ((with_reducible apply r_assign); ((conv => lhs; whnf) <;> exact rfl)) | ((with_reducible apply r_fieldAddr); exact rfl) | ((with_reducible apply r_load); exact rfl; exact rfl; (first | assumption | exact (Bx.cell (by repeat (first | assumption | ((with_reducible apply Bx.grownS); assumption; (first | omega | exact Nat.ne_of_lt (Nat.lt_of_lt_of_le (Bx.lt (by assumption)) (by omega)))) | ((with_reducible apply Bx.below); assumption; omega) | ((with_reducible apply Bx.ex); assumption))) _).trans rfl | exact Ex.cell (by assumption) (by assumption))) | ((with_reducible apply r_loadF); exact rfl; (first | assumption | exact (Bx.cell (by repeat (first | assumption | ((with_reducible apply Bx.grownS); assumption; (first | omega | exact Nat.ne_of_lt (Nat.lt_of_lt_of_le (Bx.lt (by assumption)) (by omega)))) | ((with_reducible apply Bx.below); assumption; omega) | ((with_reducible apply Bx.ex); assumption))) _).trans rfl | exact Ex.cell (by assumption) (by assumption))) | ((with_reducible apply r_loadA); exact rfl; (first | assumption | exact Bx.cells (by repeat (first | assumption | ((with_reducible apply Bx.grownS); assumption; (first | omega | exact Nat.ne_of_lt (Nat.lt_of_lt_of_le (Bx.lt (by assumption)) (by omega)))) | ((with_reducible apply Bx.below); assumption; omega) | ((with_reducible apply Bx.ex); assumption))) | exact Cells.ex (by assumption) (by assumption)); exact rfl) | ((with_reducible apply r_add); exact rfl; exact rfl; omega) | ((with_reducible apply r_rem); exact rfl; exact rfl; omega) | ((with_reducible apply r_conv); exact rfl) | ((with_reducible apply r_build2); ((conv => lhs; whnf) <;> exact rfl); ((conv => lhs; whnf) <;> exact rfl); (first | exact rfl | assumption | exact IntsK.one (by assumption) | exact Prs.one (by assumption) | exact Own.one (by assumption)); (first | exact rfl | assumption | exact IntsK.one (by assumption) | exact Prs.one (by assumption) | exact Own.one (by assumption)); exact rfl; exact rfl; ((simp only [lay, lset, List.replicate_succ, List.replicate_zero]) <;> exact rfl)) | ((with_reducible apply r_build3); ((conv => lhs; whnf) <;> exact rfl); ((conv => lhs; whnf) <;> exact rfl); ((conv => lhs; whnf) <;> exact rfl); (first | exact rfl | assumption | exact IntsK.one (by assumption) | exact Prs.one (by assumption) | exact Own.one (by assumption)); (first | exact rfl | assumption | exact IntsK.one (by assumption) | exact Prs.one (by assumption) | exact Own.one (by assumption)); (first | exact rfl | assumption | exact IntsK.one (by assumption) | exact Prs.one (by assumption) | exact Own.one (by assumption)); exact rfl; exact rfl; ((simp only [lay, lset, List.replicate_succ, List.replicate_zero]) <;> exact rfl)) | ((with_reducible apply r_loadSub); exact rfl; (focus ((repeat (first | assumption | ((with_reducible apply Bx.grownS); assumption; (first | omega | exact Nat.ne_of_lt (Nat.lt_of_lt_of_le (Bx.lt (by assumption)) (by omega)))) | ((with_reducible apply Bx.below); assumption; omega) | ((with_reducible apply Bx.ex); assumption))); done)); ((simp only [Nat.add_zero, Nat.zero_add, Nat.reduceAdd, List.drop_zero, List.drop_succ_cons, List.take_succ_cons, List.take_zero]) <;> exact rfl); exact rfl) | ((with_reducible apply r_bldA); kernel_rfl; ((conv => lhs; whnf) <;> exact rfl); ((conv => lhs; whnf) <;> exact rfl); (first | exact rfl | assumption | exact IntsK.one (by assumption) | exact Prs.one (by assumption) | exact Own.one (by assumption))) | ((with_reducible apply r_bldB); kernel_rfl; ((conv => lhs; whnf) <;> exact rfl); ((conv => lhs; whnf) <;> exact rfl); ((conv => lhs; whnf) <;> exact rfl); (first | exact rfl | assumption | exact IntsK.one (by assumption) | exact Prs.one (by assumption) | exact Own.one (by assumption)); (first | exact rfl | assumption | exact IntsK.one (by assumption) | exact Prs.one (by assumption) | exact Own.one (by assumption)))))
      | (with_reducible apply W_nil)
      | ((with_reducible apply W_box); exact rfl; exact rfl; intro bq wq hbq he hnq; have hltq := Bx.lt hbq; have hsz := he.size)
      | ((with_reducible apply W_alloc); exact rfl; intro bq wq hbq he hnq; have hltq := Bx.lt hbq; have hsz := he.size)
      | ((with_reducible apply W_indexInt); ((conv => lhs; whnf) <;> exact rfl); (focus ((repeat (first | assumption | ((with_reducible apply Bx.grownS); assumption; (first | omega | exact Nat.ne_of_lt (Nat.lt_of_lt_of_le (Bx.lt (by assumption)) (by omega)))) | ((with_reducible apply Bx.below); assumption; omega) | ((with_reducible apply Own.grownS); assumption; omega) | ((with_reducible apply Bx.ex); assumption) | ((with_reducible apply IntsK.ex); assumption) | ((with_reducible apply Own.ex); assumption) | ((with_reducible apply Prs.ex); assumption))); done)); exact rfl; omega; intro pq hpq)
      | ((with_reducible apply W_indexIntss); ((conv => lhs; whnf) <;> exact rfl); assumption; (focus ((repeat (first | assumption | exact Ex.refl _ | (refine Ex.trans ?_ (by assumption)) | (refine Ex.of_grown ?_ (by assumption) (by intro k hk; cases hk; omega)))); done)); exact rfl; omega; intro pq uq hpq huq)
      | ((with_reducible apply W_indexPr); ((conv => lhs; whnf) <;> exact rfl); (focus ((repeat (first | assumption | ((with_reducible apply Bx.grownS); assumption; (first | omega | exact Nat.ne_of_lt (Nat.lt_of_lt_of_le (Bx.lt (by assumption)) (by omega)))) | ((with_reducible apply Bx.below); assumption; omega) | ((with_reducible apply Own.grownS); assumption; omega) | ((with_reducible apply Bx.ex); assumption) | ((with_reducible apply IntsK.ex); assumption) | ((with_reducible apply Own.ex); assumption) | ((with_reducible apply Prs.ex); assumption))); done)); exact rfl; omega; intro pq hpq)
      | ((with_reducible apply W_storeA); exact rfl; (focus ((repeat (first | assumption | ((with_reducible apply Bx.grownS); assumption; (first | omega | exact Nat.ne_of_lt (Nat.lt_of_lt_of_le (Bx.lt (by assumption)) (by omega)))) | ((with_reducible apply Bx.below); assumption; omega) | ((with_reducible apply Bx.ex); assumption))); done)); exact rfl; exact rfl; exact rfl; (repeat' (first | exact trivial | (first | exact rfl | assumption | exact IntsK.one (by assumption) | exact Prs.one (by assumption) | exact Own.one (by assumption)) | constructor)); intro wq hbq hgq; have he : Ex w wq := (by repeat (first | assumption | exact Ex.refl _ | (refine Ex.trans ?_ (by assumption)) | (refine Ex.of_grown ?_ (by assumption) (by intro k hk; cases hk; omega)))); have hsz := he.size; have hgz := hgq.size)
      | ((with_reducible apply W_store); exact rfl; (focus ((repeat (first | assumption | ((with_reducible apply Bx.grownS); assumption; (first | omega | exact Nat.ne_of_lt (Nat.lt_of_lt_of_le (Bx.lt (by assumption)) (by omega)))) | ((with_reducible apply Bx.below); assumption; omega) | ((with_reducible apply Bx.ex); assumption))); done)); exact Nat.le_of_ble_eq_true rfl; ((conv => lhs; whnf) <;> exact rfl); (first | exact rfl | assumption | exact IntsK.one (by assumption) | exact Prs.one (by assumption) | exact Own.one (by assumption)); simp only [lset]; intro wq hbq hgq; have he : Ex w wq := (by repeat (first | assumption | exact Ex.refl _ | (refine Ex.trans ?_ (by assumption)) | (refine Ex.of_grown ?_ (by assumption) (by intro k hk; cases hk; omega)))); have hsz := he.size; have hgz := hgq.size)
      | ((with_reducible apply W_convBytes); exact rfl; (first | assumption | (unfold maxLen; omega)); intro vq wq hvq he; have hsz := he.size)
      | (with_reducible apply c_seq)
      | (with_reducible apply c_region)
      | (with_reducible apply c_skip)
      | (with_reducible apply c_ret)
      | (with_reducible apply n_then)
      | (with_reducible apply e_then)
      | (with_reducible apply r_then)
      | ((with_reducible apply p_retc); exact rfl; exact inferInstance; exact inferInstance; exact rfl; (focus ((repeat (first | assumption | ((with_reducible apply Bx.grownS); assumption; (first | omega | exact Nat.ne_of_lt (Nat.lt_of_lt_of_le (Bx.lt (by assumption)) (by omega)))) | ((with_reducible apply Bx.below); assumption; omega) | ((with_reducible apply Bx.ex); assumption))); done)); exact rfl; refine ⟨_, rfl, ?_, (by repeat (first | assumption | exact Ex.refl _ | (refine Ex.trans ?_ (by assumption)) | (refine Ex.of_grown ?_ (by assumption) (by intro k hk; cases hk; omega))))⟩)
      | ((with_reducible apply p_retct); exact rfl; exact inferInstance; exact inferInstance; exact rfl; (focus ((repeat (first | assumption | ((with_reducible apply Bx.grownS); assumption; (first | omega | exact Nat.ne_of_lt (Nat.lt_of_lt_of_le (Bx.lt (by assumption)) (by omega)))) | ((with_reducible apply Bx.below); assumption; omega) | ((with_reducible apply Bx.ex); assumption))); done)); exact rfl; exact rfl; refine ⟨_, rfl, ?_, (by repeat (first | assumption | exact Ex.refl _ | (refine Ex.trans ?_ (by assumption)) | (refine Ex.of_grown ?_ (by assumption) (by intro k hk; cases hk; omega))))⟩)
      | ((exfalso; omega)))
  exact ⟨_, _, _, _, rfl, by clear e1 e2 e3 e4; unfold Reel; omega⟩
end Go.Proofs.Ytagibgjemliadaa
