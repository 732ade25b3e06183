/-
  What this text proves: whether passes are possible, and the smallest pass that is free. Conditions: the values read as lists, within their limits.
-/
import Derived.Test.YtjcigpakljfkeaaVUe
set_option linter.unusedVariables false
set_option linter.unusedSimpArgs false
namespace Go.Pv
open Go.RowKit
theorem own_pe {β : Type} {p : β → Prop} {w0 : World} {B : Nat} (h : w0.heap.size ≤ B) : OwnFrom B fun (s : β) A => p s ∧ Ex w0 A :=
  fun s A A' row hs hg hr => ⟨hs.1, Ex.of_grown hs.2 hg fun k hk => by have := (hr k hk).1; omega⟩
theorem own_pbe {β : Type} {p : β → Prop} {w0 : World} {B b : Nat} {cs : List Value} {T : TypeId} (h : w0.heap.size ≤ B) : OwnFrom B fun (s : β) A => p s ∧ Bx A b cs T ∧ Ex w0 A :=
  fun s A A' row hs hg hr => ⟨hs.1, hs.2.1.notCells hg fun r e => (hr r e).2, Ex.of_grown hs.2.2 hg fun k hk => by have := (hr k hk).1; omega⟩
theorem own_pb3e {β : Type} {p : β → Prop} {w0 : World} {B b1 b2 b3 : Nat} {c1 c2 c3 : List Value} {T1 T2 T3 : TypeId} (h : w0.heap.size ≤ B) : OwnFrom B fun (s : β) A => p s ∧ Bx A b1 c1 T1 ∧ Bx A b2 c2 T2 ∧ Bx A b3 c3 T3 ∧ Ex w0 A :=
  fun s A A' row hs hg hr => ⟨hs.1, hs.2.1.notCells hg fun r e => (hr r e).2, hs.2.2.1.notCells hg fun r e => (hr r e).2, hs.2.2.2.1.notCells hg fun r e => (hr r e).2, Ex.of_grown hs.2.2.2.2 hg fun k hk => by have := (hr k hk).1; omega⟩
/-- No slot that clashes with slot i has its pass. -/
def rowOk (rest : Int) (sl : List (Int × Int)) (t : List Int) (i : Nat) : Prop := ∀ k, k < sl.length → clashP rest (sl.getD i (0, 0)) (sl.getD k (0, 0)) → ¬ (k ≠ i ∧ t.getD k (-1) = t.getD i (-1))
def posP (rest : Int) (sl : List (Int × Int)) (t : List Int) : Prop := ∀ i, i < sl.length → rowOk rest sl t i
end Go.Pv
namespace Go.Proofs.Ytjcigpakljfkeaa
open Go.Pv Go.RowKit
set_option maxHeartbeats 8000000
theorem possible_any (rest : Int) (v : Value) (sl : List (Int × Int)) (t : List Int) (w : World) (h : Prs w v sl) (hl : sl.length ≤ 40) (ht : t.length = 40) (hr : (0 ≤ rest ∧ rest ≤ 1000000) ∧ (∀ j, j < sl.length → 0 ≤ (sl.getD j (0, 0)).2 ∧ (sl.getD j (0, 0)).2 ≤ 1000000)) :
    Ret Try.prog 64 [.agg (plC (.int .i64 rest) v t).toArray] w fun r _ => ∃ b : Bool, r = .bool b ∧ (b = true ↔ posP rest sl t) := by
  have hv1 := h.one
  have tA : True := trivial
  refine ret_of_c Try.func64 rfl Try.ntmps64 (Nat.le_of_ble_eq_true rfl) (by dsimp only [ini, Nat.reduceAdd] <;> exact rfl) ?_
  repeat' (first
      | ((first | ((with_reducible apply W_op); exact rfl; exact rfl) | ((with_reducible apply WQ_op); exact rfl; exact rfl; intro wq he) | ((with_reducible apply WM_op); exact rfl; exact rfl; intro wq he) | ((with_reducible apply WB_op); exact rfl; exact rfl; intro wq)); (first | ((with_reducible apply r_move); ((conv => lhs; whnf) <;> exact rfl)) | ((with_reducible apply r_fieldAddr); exact rfl) | ((with_reducible apply r_load); exact rfl; exact rfl; (first | assumption | exact (Bx.cell (by repeat (first | assumption | ((with_reducible apply Bx.grownS); assumption; (first | omega | exact Bx.ne (by assumption) (by omega))) | ((with_reducible apply Bx.below); assumption; omega) | ((with_reducible apply Bx.ex); assumption))) _).trans rfl | exact Ex.cell (by assumption) (by assumption))) | ((with_reducible apply r_loadA); exact rfl; (first | assumption | exact Bx.cells (by repeat (first | assumption | ((with_reducible apply Bx.grownS); assumption; (first | omega | exact Bx.ne (by assumption) (by omega))) | ((with_reducible apply Bx.below); assumption; omega) | ((with_reducible apply Bx.ex); assumption))) | exact Cells.ex (by assumption) (by assumption)); exact rfl) | ((with_reducible apply r_lss); exact rfl; exact rfl) | ((with_reducible apply r_lenPrs); ((conv => lhs; whnf) <;> exact rfl); (focus ((repeat (first | assumption | ((with_reducible apply Bx.grownS); assumption; (first | omega | exact Bx.ne (by assumption) (by omega))) | ((with_reducible apply Bx.below); assumption; omega) | ((with_reducible apply Own.grownS); assumption; omega) | ((with_reducible apply Bx.ex); assumption) | ((with_reducible apply IntsK.ex); assumption) | ((with_reducible apply Own.ex); assumption) | ((with_reducible apply Prs.ex); assumption))); done))) | ((with_reducible apply r_loadSub); exact rfl; (focus ((repeat (first | assumption | ((with_reducible apply Bx.grownS); assumption; (first | omega | exact Bx.ne (by assumption) (by omega))) | ((with_reducible apply Bx.below); assumption; omega) | ((with_reducible apply Bx.ex); assumption))); done)); ((simp only [Nat.add_zero, Nat.zero_add, Nat.reduceAdd, List.drop_zero, List.drop_succ_cons, List.take_succ_cons, List.take_zero]) <;> exact rfl); exact rfl)))
      | (refine W_call (clashing_any rest (sl.getD k (0, 0)).1 (sl.getD k (0, 0)).2 v _ hv1) rfl ?_; rintro vq wq ⟨bj, bs, rfl, hbj, hbs, hlj, hls⟩ he; have hsz := he.size)
      | (refine c_loopM (w.heap.size) (fun (k : Nat) ps wr => ∃ b1 : Nat, ∃ b2 : Nat, ∃ i : Int, ps = [(1, .pointer (some ⟨b1, 0, none⟩)), (2, .pointer (some ⟨b2, 0, none⟩)), (8, v), (9, .int .i64 sl.length), (10, .int .i64 i)] ∧ i = k ∧ k ≤ sl.length ∧ w.heap.size ≤ b1 ∧ w.heap.size ≤ b2 ∧ b1 ≠ b2 ∧ Bx wr b1 (plC (.int .i64 rest) v t) 102 ∧ Bx wr b2 [.bool false] 4 ∧ (∀ j, j < k → rowOk rest sl t j) ∧ Ex w wr) (fun k => sl.length - k) 0 _ ⟨_, _, _, rfl, rfl, Nat.zero_le _, by omega, by omega, by omega, (by repeat (first | assumption | ((with_reducible apply Bx.grownS); assumption; (first | omega | exact Bx.ne (by assumption) (by omega))) | ((with_reducible apply Bx.below); assumption; omega) | ((with_reducible apply Bx.ex); assumption))), (by repeat (first | assumption | ((with_reducible apply Bx.grownS); assumption; (first | omega | exact Bx.ne (by assumption) (by omega))) | ((with_reducible apply Bx.below); assumption; omega) | ((with_reducible apply Bx.ex); assumption))), fun j hj => absurd hj (Nat.not_lt_zero _), (by repeat (first | assumption | exact Ex.refl _ | (refine Ex.trans ?_ (by assumption)) | (refine Ex.of_grown ?_ (by assumption) (by intro k hk; cases hk; omega))))⟩ ⟨rfl, rfl, rfl, rfl, rfl, trivial⟩ (by ((conv => lhs; whnf) <;> exact rfl)) (by repeat (first | assumption | exact Al.nil _ _ | ((with_reducible apply Al.grownS); assumption; (focus ((repeat (first | assumption | ((with_reducible apply Bx.grownS); assumption; (first | omega | exact Bx.ne (by assumption) (by omega))) | ((with_reducible apply Bx.below); assumption; omega) | ((with_reducible apply Bx.ex); assumption))); done))) | (refine Al.ex (by assumption) ?_))) ?_; rintro J hJ k u ps wr dsl ⟨b1, b2, i, rfl, rfl, hk, hb1, hb2, hne, hx1, hx2, hall, he⟩ hal; have hsz := he.size)
      | (with_reducible apply W_nil)
      | ((with_reducible apply W_box); exact rfl; exact rfl; intro bq wq hbq he hnq; have hltq := Bx.lt hbq; have hsz := he.size)
      | ((with_reducible apply W_alloc); exact rfl; intro bq wq hbq he hnq; have hltq := Bx.lt hbq; have hsz := he.size)
      | ((with_reducible apply W_indexPr); ((conv => lhs; whnf) <;> exact rfl); (focus ((repeat (first | assumption | ((with_reducible apply Bx.grownS); assumption; (first | omega | exact Bx.ne (by assumption) (by omega))) | ((with_reducible apply Bx.below); assumption; omega) | ((with_reducible apply Own.grownS); assumption; omega) | ((with_reducible apply Bx.ex); assumption) | ((with_reducible apply IntsK.ex); assumption) | ((with_reducible apply Own.ex); assumption) | ((with_reducible apply Prs.ex); assumption))); done)); exact rfl; omega; intro pq hpq)
      | ((with_reducible apply W_storeA); exact rfl; (focus ((repeat (first | assumption | ((with_reducible apply Bx.grownS); assumption; (first | omega | exact Bx.ne (by assumption) (by omega))) | ((with_reducible apply Bx.below); assumption; omega) | ((with_reducible apply Bx.ex); assumption))); done)); exact rfl; exact rfl; exact rfl; (repeat' (first | exact trivial | (first | exact rfl | assumption | exact IntsK.one (by assumption) | exact Prs.one (by assumption) | exact Own.one (by assumption)) | constructor)); intro wq hbq hgq; have he : Ex w wq := (by repeat (first | assumption | exact Ex.refl _ | (refine Ex.trans ?_ (by assumption)) | (refine Ex.of_grown ?_ (by assumption) (by intro k hk; cases hk; omega)))); have hsz := he.size; have hgz := hgq.size)
      | ((with_reducible apply W_store); exact rfl; (focus ((repeat (first | assumption | ((with_reducible apply Bx.grownS); assumption; (first | omega | exact Bx.ne (by assumption) (by omega))) | ((with_reducible apply Bx.below); assumption; omega) | ((with_reducible apply Bx.ex); assumption))); done)); exact Nat.le_of_ble_eq_true rfl; ((conv => lhs; whnf) <;> exact rfl); (first | exact rfl | assumption | exact IntsK.one (by assumption) | exact Prs.one (by assumption) | exact Own.one (by assumption)); simp only [lset]; intro wq hbq hgq; have he : Ex w wq := (by repeat (first | assumption | exact Ex.refl _ | (refine Ex.trans ?_ (by assumption)) | (refine Ex.of_grown ?_ (by assumption) (by intro k hk; cases hk; omega)))); have hsz := he.size; have hgz := hgq.size)
      | (with_reducible apply c_seq)
      | ((with_reducible apply c_region); kernel_rfl)
      | (with_reducible apply n_nq)
      | (with_reducible apply c_block)
      | (with_reducible apply c_skip)
      | (with_reducible apply c_ret)
      | (with_reducible apply c_exit)
      | ((with_reducible apply c_cond_dec); exact rfl; intro _; rotate_left 1; intro _)
      | (with_reducible apply n_then)
      | (with_reducible apply e_then)
      | (with_reducible apply e_block)
      | ((with_reducible apply m_retc); (focus ((repeat (first | assumption | exact Al.nil _ _ | ((with_reducible apply Al.grownS); assumption; (focus ((repeat (first | assumption | ((with_reducible apply Bx.grownS); assumption; (first | omega | exact Bx.ne (by assumption) (by omega))) | ((with_reducible apply Bx.below); assumption; omega) | ((with_reducible apply Bx.ex); assumption))); done))) | (refine Al.ex (by assumption) ?_))); done)); exact rfl; exact inferInstance; exact rfl; exact rfl; (focus ((repeat (first | assumption | ((with_reducible apply Bx.grownS); assumption; (first | omega | exact Bx.ne (by assumption) (by omega))) | ((with_reducible apply Bx.below); assumption; omega) | ((with_reducible apply Bx.ex); assumption))); done)); refine ⟨_, rfl, ?_, (shut_grown _ _ (by repeat (first | assumption | exact Al.nil _ _ | ((with_reducible apply Al.grownS); assumption; (focus ((repeat (first | assumption | ((with_reducible apply Bx.grownS); assumption; (first | omega | exact Bx.ne (by assumption) (by omega))) | ((with_reducible apply Bx.below); assumption; omega) | ((with_reducible apply Bx.ex); assumption))); done))) | (refine Al.ex (by assumption) ?_))) (by repeat (first | assumption | exact Ex.refl _ | (refine Ex.trans ?_ (by assumption)) | (refine Ex.of_grown ?_ (by assumption) (by intro k hk; cases hk; omega)))) (Nat.le_refl _))⟩))
  · exact ⟨true, rfl, ⟨fun _ i hi => hall i (by omega), fun _ => rfl⟩⟩
  · have hik := hr.2 k (by omega)
    refine c_rangeA (ps := [19]) (vs := fun x : Idx sl.length => [.int .i64 x.1]) (B := w.heap.size) (gf := 93) (lb := #[.pointer (some ⟨bj, 0, none⟩), .pointer (some ⟨bs, 0, none⟩)]) (fun L x => upd (upd L 19 (.int .i64 x.1)) 5 (.int .i64 x.1)) rfl (enters_of Try.func93 (by kernel_rfl) rfl) (clashing1_seq rest _ _ v sl bj bs w wq h hl ⟨hr.1, hr.2, hik⟩ ⟨hbj, hbs, (by repeat (first | assumption | exact Ex.refl _ | (refine Ex.trans ?_ (by assumption)) | (refine Ex.of_grown ?_ (by assumption) (by intro k hk; cases hk; omega))))⟩) (fun A a => a) (fun h k a => k (h a)) (fun A i o o' hi hA ho _ F => F.put (by omega) hA ho) (fun _ => rfl) (by repeat (first | assumption | exact Al.nil _ _ | ((with_reducible apply Al.grownS); assumption; (focus ((repeat (first | assumption | ((with_reducible apply Bx.grownS); assumption; (first | omega | exact Bx.ne (by assumption) (by omega))) | ((with_reducible apply Bx.below); assumption; omega) | ((with_reducible apply Bx.ex); assumption))); done))) | (refine Al.ex (by assumption) ?_))) (by omega)
      (fun pre A => (∀ x ∈ pre, ¬ (x.1 ≠ k ∧ t.getD x.1 (-1) = t.getD k (-1))) ∧ Ex wq A)
      (fun c pre A => (c = .ret ∧ ∃ pr x, pre = pr ++ [x] ∧ (x.1 ≠ k ∧ t.getD x.1 (-1) = t.getD k (-1))) ∧ Bx A b2 [.bool false] 4 ∧ Ex w A) (own_pe (Nat.le_refl _)) (fun c => own_pbe (by omega)) ⟨by simp, Ex.refl _⟩ ?assign ?body ?done ?stop
    case assign =>
      intro i x A K hK
      repeat' (first
          | ((first | ((with_reducible apply W_op); exact rfl; exact rfl) | ((with_reducible apply WQ_op); exact rfl; exact rfl; intro wq he) | ((with_reducible apply WM_op); exact rfl; exact rfl; intro wq he) | ((with_reducible apply WB_op); exact rfl; exact rfl; intro wq)); (first | ((with_reducible apply r_assign); ((conv => lhs; whnf) <;> exact rfl))))
          | (with_reducible apply W_nil)
          | ((with_reducible apply c_region); kernel_rfl)
          | (with_reducible apply n_nq))
      exact ⟨_, rfl, hK⟩
    case body =>
      rintro i pre x A ⟨hpre, heA⟩ hlen
      have hx1A : Bx A b1 (plC (.int .i64 rest) v t) 102 := (by repeat (first | assumption | ((with_reducible apply Bx.grownS); assumption; (first | omega | exact Bx.ne (by assumption) (by omega))) | ((with_reducible apply Bx.below); assumption; omega) | ((with_reducible apply Bx.ex); assumption)))
      have hx2A : Bx A b2 [.bool false] 4 := (by repeat (first | assumption | ((with_reducible apply Bx.grownS); assumption; (first | omega | exact Bx.ne (by assumption) (by omega))) | ((with_reducible apply Bx.below); assumption; omega) | ((with_reducible apply Bx.ex); assumption)))
      have hxl := x.2
      repeat' (first
          | ((with_reducible apply c_quiet); kernel_rfl)
          | ((with_reducible apply WQ_op); exact rfl; exact rfl; (intro wq he; exact r_indexArr (i := x.1) rfl rfl (by omega)))
          | ((with_reducible apply WQ_op); exact rfl; exact rfl; (intro wq he; exact r_indexArr (i := k) rfl rfl (by omega)))
          | ((with_reducible apply WQ_op); exact rfl; exact rfl; (intro wq he; exact r_load rfl rfl ((Bx.cell (Bx.ex he hx1A) _).trans (plC_get (by omega)))))
          | ((first | ((with_reducible apply W_op); exact rfl; exact rfl) | ((with_reducible apply WQ_op); exact rfl; exact rfl; intro wq he) | ((with_reducible apply WM_op); exact rfl; exact rfl; intro wq he) | ((with_reducible apply WB_op); exact rfl; exact rfl; intro wq)); (first | ((with_reducible apply r_move); ((conv => lhs; whnf) <;> exact rfl)) | ((with_reducible apply r_fieldAddr); exact rfl) | ((with_reducible apply r_load); exact rfl; exact rfl; (first | assumption | exact (Bx.cell (by repeat (first | assumption | ((with_reducible apply Bx.grownS); assumption; (first | omega | exact Bx.ne (by assumption) (by omega))) | ((with_reducible apply Bx.below); assumption; omega) | ((with_reducible apply Bx.ex); assumption))) _).trans rfl | exact Ex.cell (by assumption) (by assumption))) | ((with_reducible apply r_eql); exact rfl; exact rfl) | ((with_reducible apply r_neq); exact rfl; exact rfl) | ((with_reducible apply r_pick_true); exact rfl; ((conv => lhs; whnf) <;> exact rfl)) | ((with_reducible apply r_pick_false); exact rfl; ((conv => lhs; whnf) <;> exact rfl))))
          | (with_reducible apply W_nil)
          | ((with_reducible apply WQ_nil); exact rfl; intro wq he; have hsz := he.size)
          | ((with_reducible apply W_store); exact rfl; (focus ((repeat (first | assumption | ((with_reducible apply Bx.grownS); assumption; (first | omega | exact Bx.ne (by assumption) (by omega))) | ((with_reducible apply Bx.below); assumption; omega) | ((with_reducible apply Bx.ex); assumption))); done)); exact Nat.le_of_ble_eq_true rfl; ((conv => lhs; whnf) <;> exact rfl); (first | exact rfl | assumption | exact IntsK.one (by assumption) | exact Prs.one (by assumption) | exact Own.one (by assumption)); simp only [lset]; intro wq hbq hgq; have he : Ex w wq := (by repeat (first | assumption | exact Ex.refl _ | (refine Ex.trans ?_ (by assumption)) | (refine Ex.of_grown ?_ (by assumption) (by intro k hk; cases hk; omega)))); have hsz := he.size; have hgz := hgq.size)
          | ((with_reducible apply WQ_pass); exact rfl; exact rfl; exact rfl; exact rfl; exact rfl)
          | ((with_reducible apply WQ_take); exact rfl; exact rfl; exact rfl)
          | ((with_reducible apply WQ_split); exact rfl; exact rfl; intro _; rotate_left 1; intro _)
          | (with_reducible apply c_seq)
          | ((with_reducible apply c_region); kernel_rfl)
          | (with_reducible apply n_nq)
          | (with_reducible apply c_block)
          | (with_reducible apply c_skip)
          | (with_reducible apply c_ret)
          | ((with_reducible apply c_cond_false); exact rfl)
          | ((with_reducible apply c_cond_dec); exact rfl; intro _; rotate_left 1; intro _)
          | (with_reducible apply n_then)
          | (with_reducible apply n_block)
          | (with_reducible apply r_block))
      all_goals first
        | (show KeepsOthers _ _ ∧ _ ∧ _ ∧ _
           refine ⟨keeps_of_ex (by assumption), fun F => F.ex (by assumption), fun y hy => ?_, (by repeat (first | assumption | exact Ex.refl _ | (refine Ex.trans ?_ (by assumption)) | (refine Ex.of_grown ?_ (by assumption) (by intro k hk; cases hk; omega))))⟩
           rcases List.mem_append.1 hy with hy | hy
           · exact hpre y hy
           · have hyx : y = x := by simpa using hy
             subst hyx
             intro hf
             first
               | exact absurd hf.2 (by assumption)
               | (have := hf.1; omega))
        | (show KeepsOthers _ _ ∧ _
           exact ⟨(keeps_of_ex (by assumption)).trans (keeps_gr hgq (Bx.ex (by assumption) hx2A)), ⟨rfl, pre, x, rfl, by omega, by assumption⟩, hbq, (by repeat (first | assumption | exact Ex.refl _ | (refine Ex.trans ?_ (by assumption)) | (refine Ex.of_grown ?_ (by assumption) (by intro k hk; cases hk; omega))))⟩)
    case done =>
      rintro D xs A hD hS ⟨hxs, heA⟩ halA
      have hrow : rowOk rest sl t k := by
        intro j hj hc hf
        have : (j : Int) ∈ xs.map vI := by
          rw [show xs.map vI = _ from hS]; exact clTo_mem.2 ⟨j, rfl, hj, hc⟩
        obtain ⟨x, hx, hxe⟩ := List.mem_map.1 this
        have hxe2 : x.1 = j := by unfold vI at hxe; omega
        exact hxs x hx (by rw [hxe2]; exact hf)
      repeat' (first
          | ((first | ((with_reducible apply W_op); exact rfl; exact rfl) | ((with_reducible apply WQ_op); exact rfl; exact rfl; intro wq he) | ((with_reducible apply WM_op); exact rfl; exact rfl; intro wq he) | ((with_reducible apply WB_op); exact rfl; exact rfl; intro wq)); (first | ((with_reducible apply r_move); ((conv => lhs; whnf) <;> exact rfl)) | ((with_reducible apply r_add); exact rfl; exact rfl; omega)))
          | (with_reducible apply W_nil)
          | ((with_reducible apply c_region); kernel_rfl)
          | (with_reducible apply n_nq)
          | (with_reducible apply n_then)
          | (with_reducible apply n_block))
      refine n_roundG (k + 1) (hJ _ _ _ _ ⟨_, _, _, rfl, by omega, by omega, hb1, hb2, hne, (by repeat (first | assumption | ((with_reducible apply Bx.grownS); assumption; (first | omega | exact Bx.ne (by assumption) (by omega))) | ((with_reducible apply Bx.below); assumption; omega) | ((with_reducible apply Bx.ex); assumption))), (by repeat (first | assumption | ((with_reducible apply Bx.grownS); assumption; (first | omega | exact Bx.ne (by assumption) (by omega))) | ((with_reducible apply Bx.below); assumption; omega) | ((with_reducible apply Bx.ex); assumption))), below_succ hall hrow, (by repeat (first | assumption | exact Ex.refl _ | (refine Ex.trans ?_ (by assumption)) | (refine Ex.of_grown ?_ (by assumption) (by intro k hk; cases hk; omega))))⟩ ⟨rfl, rfl, rfl, rfl, rfl, trivial⟩ rfl (by repeat (first | assumption | exact Al.nil _ _ | ((with_reducible apply Al.grownS); assumption; (focus ((repeat (first | assumption | ((with_reducible apply Bx.grownS); assumption; (first | omega | exact Bx.ne (by assumption) (by omega))) | ((with_reducible apply Bx.below); assumption; omega) | ((with_reducible apply Bx.ex); assumption))); done))) | (refine Al.ex (by assumption) ?_)))) (by omega)
    case stop =>
      rintro D c pre A hD ⟨pr, x, hp1, hc⟩ ⟨⟨rfl, pr2, x2, hp2, hf⟩, hx2A, heA⟩ halA
      obtain ⟨_, e2⟩ := List.append_inj' (hp1.symm.trans hp2) rfl
      cases e2
      repeat' (first
          | (with_reducible apply c_ret)
          | (with_reducible apply r_then)
          | (with_reducible apply r_block)
          | ((with_reducible apply m_retc); (focus ((repeat (first | assumption | exact Al.nil _ _ | ((with_reducible apply Al.grownS); assumption; (focus ((repeat (first | assumption | ((with_reducible apply Bx.grownS); assumption; (first | omega | exact Bx.ne (by assumption) (by omega))) | ((with_reducible apply Bx.below); assumption; omega) | ((with_reducible apply Bx.ex); assumption))); done))) | (refine Al.ex (by assumption) ?_))); done)); exact rfl; exact inferInstance; exact rfl; exact rfl; (focus ((repeat (first | assumption | ((with_reducible apply Bx.grownS); assumption; (first | omega | exact Bx.ne (by assumption) (by omega))) | ((with_reducible apply Bx.below); assumption; omega) | ((with_reducible apply Bx.ex); assumption))); done)); refine ⟨_, rfl, ?_, (shut_grown _ _ (by repeat (first | assumption | exact Al.nil _ _ | ((with_reducible apply Al.grownS); assumption; (focus ((repeat (first | assumption | ((with_reducible apply Bx.grownS); assumption; (first | omega | exact Bx.ne (by assumption) (by omega))) | ((with_reducible apply Bx.below); assumption; omega) | ((with_reducible apply Bx.ex); assumption))); done))) | (refine Al.ex (by assumption) ?_))) (by repeat (first | assumption | exact Ex.refl _ | (refine Ex.trans ?_ (by assumption)) | (refine Ex.of_grown ?_ (by assumption) (by intro k hk; cases hk; omega)))) (Nat.le_refl _))⟩))
      exact ⟨false, rfl, ⟨fun hc => (by cases hc), fun hp => absurd hf (hp k (by omega) x.1 x.2 hc)⟩⟩
theorem smallest_any (rest a b : Int) (v : Value) (sl : List (Int × Int)) (t : List Int) (w : World) (h : Prs w v sl) (hl : sl.length ≤ 40) (ht : t.length = 40) (hr : (0 ≤ rest ∧ rest ≤ 1000000) ∧ (∀ j, j < sl.length → 0 ≤ (sl.getD j (0, 0)).2 ∧ (sl.getD j (0, 0)).2 ≤ 1000000) ∧ 0 ≤ b ∧ b ≤ 1000000) :
    Ret Try.prog 57 [.agg (plC (.int .i64 rest) v t).toArray, .agg #[.int .i64 a, .int .i64 b]] w fun r _ => r = .int .i64 (smallN rest sl t (a, b)) := by
  have hv1 := h.one
  obtain ⟨M, hM, hMl, hMf, hMn⟩ := small_ex (rest := rest) (sl := sl) (t := t) (s := (a, b))
  have tA : True := trivial
  refine ret_of_c Try.func57 rfl Try.ntmps57 (Nat.le_of_ble_eq_true rfl) (by dsimp only [ini, Nat.reduceAdd] <;> exact rfl) ?_
  repeat' (first
      | (refine W_op rfl rfl (r_loadSub (d := [.int .i64 rest, v]) rfl hx1 rfl rfl) ?_)
      | ((first | ((with_reducible apply W_op); exact rfl; exact rfl) | ((with_reducible apply WQ_op); exact rfl; exact rfl; intro wq he) | ((with_reducible apply WM_op); exact rfl; exact rfl; intro wq he) | ((with_reducible apply WB_op); exact rfl; exact rfl; intro wq)); (first | ((with_reducible apply r_assign); ((conv => lhs; whnf) <;> exact rfl)) | ((with_reducible apply r_fieldAddr); exact rfl) | ((with_reducible apply r_loadA); exact rfl; (first | assumption | exact Bx.cells (by repeat (first | assumption | ((with_reducible apply Bx.grownS); assumption; (first | omega | exact Bx.ne (by assumption) (by omega))) | ((with_reducible apply Bx.below); assumption; omega) | ((with_reducible apply Bx.ex); assumption))) | exact Cells.ex (by assumption) (by assumption)); exact rfl)))
      | (refine W_call (clashing_any rest a b v _ hv1) rfl ?_; rintro vq wq ⟨bj, bs, rfl, hbj, hbs, hlj, hls⟩ he; have hsz := he.size)
      | (refine c_loopM (w.heap.size) (fun (k : Nat) ps wr => ∃ b1 : Nat, ∃ b2 : Nat, ∃ b3 : Nat, ps = [(2, .pointer (some ⟨b1, 0, none⟩)), (3, .pointer (some ⟨b2, 0, none⟩)), (5, .pointer (some ⟨b3, 0, none⟩))] ∧ k ≤ M ∧ w.heap.size ≤ b1 ∧ w.heap.size ≤ b2 ∧ w.heap.size ≤ b3 ∧ b1 ≠ b3 ∧ b2 ≠ b3 ∧ Bx wr b1 (plC (.int .i64 rest) v t) 102 ∧ Bx wr b2 [.int .i64 a, .int .i64 b] 47 ∧ Bx wr b3 [.int .i64 k] 3 ∧ Ex w wr) (fun k => M - k) 0 _ ⟨_, _, _, rfl, Nat.zero_le _, by omega, by omega, by omega, by omega, by omega, (by repeat (first | assumption | ((with_reducible apply Bx.grownS); assumption; (first | omega | exact Bx.ne (by assumption) (by omega))) | ((with_reducible apply Bx.below); assumption; omega) | ((with_reducible apply Bx.ex); assumption))), (by repeat (first | assumption | ((with_reducible apply Bx.grownS); assumption; (first | omega | exact Bx.ne (by assumption) (by omega))) | ((with_reducible apply Bx.below); assumption; omega) | ((with_reducible apply Bx.ex); assumption))), (by repeat (first | assumption | ((with_reducible apply Bx.grownS); assumption; (first | omega | exact Bx.ne (by assumption) (by omega))) | ((with_reducible apply Bx.below); assumption; omega) | ((with_reducible apply Bx.ex); assumption))), (by repeat (first | assumption | exact Ex.refl _ | (refine Ex.trans ?_ (by assumption)) | (refine Ex.of_grown ?_ (by assumption) (by intro k hk; cases hk; omega))))⟩ ⟨rfl, rfl, rfl, trivial⟩ (by ((conv => lhs; whnf) <;> exact rfl)) (by repeat (first | assumption | exact Al.nil _ _ | ((with_reducible apply Al.grownS); assumption; (focus ((repeat (first | assumption | ((with_reducible apply Bx.grownS); assumption; (first | omega | exact Bx.ne (by assumption) (by omega))) | ((with_reducible apply Bx.below); assumption; omega) | ((with_reducible apply Bx.ex); assumption))); done))) | (refine Al.ex (by assumption) ?_))) ?_; rintro J hJ k u ps wr dsl ⟨b1, b2, b3, rfl, hk, hb1, hb2, hb3, hne, hne2, hx1, hx2, hx3, he⟩ hal; have hsz := he.size)
      | (with_reducible apply W_nil)
      | ((with_reducible apply W_box); exact rfl; exact rfl; intro bq wq hbq he hnq; have hltq := Bx.lt hbq; have hsz := he.size)
      | ((with_reducible apply W_alloc); exact rfl; intro bq wq hbq he hnq; have hltq := Bx.lt hbq; have hsz := he.size)
      | ((with_reducible apply W_store); exact rfl; (focus ((repeat (first | assumption | ((with_reducible apply Bx.grownS); assumption; (first | omega | exact Bx.ne (by assumption) (by omega))) | ((with_reducible apply Bx.below); assumption; omega) | ((with_reducible apply Bx.ex); assumption))); done)); exact Nat.le_of_ble_eq_true rfl; ((conv => lhs; whnf) <;> exact rfl); (first | exact rfl | assumption | exact IntsK.one (by assumption) | exact Prs.one (by assumption) | exact Own.one (by assumption)); simp only [lset]; intro wq hbq hgq; have he : Ex w wq := (by repeat (first | assumption | exact Ex.refl _ | (refine Ex.trans ?_ (by assumption)) | (refine Ex.of_grown ?_ (by assumption) (by intro k hk; cases hk; omega)))); have hsz := he.size; have hgz := hgq.size)
      | (with_reducible apply c_seq)
      | ((with_reducible apply c_region); kernel_rfl)
      | (with_reducible apply n_nq)
      | (with_reducible apply c_block)
      | (with_reducible apply c_scope)
      | (with_reducible apply c_label)
      | (with_reducible apply n_then))
  refine c_rangeA (ps := [11]) (vs := fun x : Idx sl.length => [.int .i64 x.1]) (B := w.heap.size) (gf := 93) (lb := #[.pointer (some ⟨bj, 0, none⟩), .pointer (some ⟨bs, 0, none⟩)]) (fun L x => upd (upd L 11 (.int .i64 x.1)) 6 (.int .i64 x.1)) rfl (enters_of Try.func93 (by kernel_rfl) rfl) (clashing1_seq rest _ _ v sl bj bs w wq h hl hr ⟨hbj, hbs, (by repeat (first | assumption | exact Ex.refl _ | (refine Ex.trans ?_ (by assumption)) | (refine Ex.of_grown ?_ (by assumption) (by intro k hk; cases hk; omega))))⟩) (fun A a => a) (fun h k a => k (h a)) (fun A i o o' hi hA ho _ F => F.put (by omega) hA ho) (fun _ => rfl) (by repeat (first | assumption | exact Al.nil _ _ | ((with_reducible apply Al.grownS); assumption; (focus ((repeat (first | assumption | ((with_reducible apply Bx.grownS); assumption; (first | omega | exact Bx.ne (by assumption) (by omega))) | ((with_reducible apply Bx.below); assumption; omega) | ((with_reducible apply Bx.ex); assumption))); done))) | (refine Al.ex (by assumption) ?_))) (by omega)
      (fun pre A => (∀ x ∈ pre, t.getD x.1 (-1) ≠ k) ∧ Ex wq A)
      (fun c pre A => (c = .exit 1 ∧ ∃ pr x, pre = pr ++ [x] ∧ t.getD x.1 (-1) = k) ∧ Bx A b1 (plC (.int .i64 rest) v t) 102 ∧ Bx A b2 [.int .i64 a, .int .i64 b] 47 ∧ Bx A b3 [.int .i64 (k + 1)] 3 ∧ Ex w A) (own_pe (Nat.le_refl _)) (fun c => own_pb3e (by omega)) ⟨by simp, Ex.refl _⟩ ?assign ?body ?done ?stop
  case assign =>
    intro i x A K hK
    repeat' (first
        | ((first | ((with_reducible apply W_op); exact rfl; exact rfl) | ((with_reducible apply WQ_op); exact rfl; exact rfl; intro wq he) | ((with_reducible apply WM_op); exact rfl; exact rfl; intro wq he) | ((with_reducible apply WB_op); exact rfl; exact rfl; intro wq)); (first | ((with_reducible apply r_assign); ((conv => lhs; whnf) <;> exact rfl))))
        | (with_reducible apply W_nil)
        | ((with_reducible apply c_region); kernel_rfl)
        | (with_reducible apply n_nq))
    exact ⟨_, rfl, hK⟩
  case body =>
    rintro i pre x A ⟨hpre, heA⟩ hlen
    have hx1A : Bx A b1 (plC (.int .i64 rest) v t) 102 := (by repeat (first | assumption | ((with_reducible apply Bx.grownS); assumption; (first | omega | exact Bx.ne (by assumption) (by omega))) | ((with_reducible apply Bx.below); assumption; omega) | ((with_reducible apply Bx.ex); assumption)))
    have hx2A : Bx A b2 [.int .i64 a, .int .i64 b] 47 := (by repeat (first | assumption | ((with_reducible apply Bx.grownS); assumption; (first | omega | exact Bx.ne (by assumption) (by omega))) | ((with_reducible apply Bx.below); assumption; omega) | ((with_reducible apply Bx.ex); assumption)))
    have hx3A : Bx A b3 [.int .i64 k] 3 := (by repeat (first | assumption | ((with_reducible apply Bx.grownS); assumption; (first | omega | exact Bx.ne (by assumption) (by omega))) | ((with_reducible apply Bx.below); assumption; omega) | ((with_reducible apply Bx.ex); assumption)))
    have hxl := x.2
    repeat' (first
        | ((with_reducible apply c_quiet); kernel_rfl)
        | ((with_reducible apply WQ_op); exact rfl; exact rfl; (intro wq he; exact r_indexArr (i := x.1) rfl rfl (by omega)))
        | ((with_reducible apply WQ_op); exact rfl; exact rfl; (intro wq he; exact r_load rfl rfl ((Bx.cell (Bx.ex he hx1A) _).trans (plC_get (by omega)))))
        | ((first | ((with_reducible apply W_op); exact rfl; exact rfl) | ((with_reducible apply WQ_op); exact rfl; exact rfl; intro wq he) | ((with_reducible apply WM_op); exact rfl; exact rfl; intro wq he) | ((with_reducible apply WB_op); exact rfl; exact rfl; intro wq)); (first | ((with_reducible apply r_move); ((conv => lhs; whnf) <;> exact rfl)) | ((with_reducible apply r_fieldAddr); exact rfl) | ((with_reducible apply r_load); exact rfl; exact rfl; (first | assumption | exact (Bx.cell (by repeat (first | assumption | ((with_reducible apply Bx.grownS); assumption; (first | omega | exact Bx.ne (by assumption) (by omega))) | ((with_reducible apply Bx.below); assumption; omega) | ((with_reducible apply Bx.ex); assumption))) _).trans rfl | exact Ex.cell (by assumption) (by assumption))) | ((with_reducible apply r_eql); exact rfl; exact rfl) | ((with_reducible apply r_add); exact rfl; exact rfl; omega)))
        | (with_reducible apply W_nil)
        | ((with_reducible apply WQ_nil); exact rfl; intro wq he; have hsz := he.size)
        | ((with_reducible apply W_store); exact rfl; (focus ((repeat (first | assumption | ((with_reducible apply Bx.grownS); assumption; (first | omega | exact Bx.ne (by assumption) (by omega))) | ((with_reducible apply Bx.below); assumption; omega) | ((with_reducible apply Bx.ex); assumption))); done)); exact Nat.le_of_ble_eq_true rfl; ((conv => lhs; whnf) <;> exact rfl); (first | exact rfl | assumption | exact IntsK.one (by assumption) | exact Prs.one (by assumption) | exact Own.one (by assumption)); simp only [lset]; intro wq hbq hgq; have he : Ex w wq := (by repeat (first | assumption | exact Ex.refl _ | (refine Ex.trans ?_ (by assumption)) | (refine Ex.of_grown ?_ (by assumption) (by intro k hk; cases hk; omega)))); have hsz := he.size; have hgz := hgq.size)
        | (with_reducible apply c_seq)
        | ((with_reducible apply c_region); kernel_rfl)
        | (with_reducible apply n_nq)
        | (with_reducible apply c_block)
        | (with_reducible apply c_skip)
        | (with_reducible apply c_exit)
        | ((with_reducible apply c_cond_dec); exact rfl; intro _; rotate_left 1; intro _)
        | (with_reducible apply n_then)
        | (with_reducible apply n_block)
        | ((with_reducible apply e_block'); decide))
    all_goals first
      | (show KeepsOthers _ _ ∧ _ ∧ _ ∧ _
         refine ⟨keeps_of_ex (by assumption), fun F => F.ex (by assumption), fun y hy => ?_, (by repeat (first | assumption | exact Ex.refl _ | (refine Ex.trans ?_ (by assumption)) | (refine Ex.of_grown ?_ (by assumption) (by intro k hk; cases hk; omega))))⟩
         rcases List.mem_append.1 hy with hy | hy
         · exact hpre y hy
         · have hyx : y = x := by simpa using hy
           subst hyx
           assumption)
      | (show KeepsOthers _ _ ∧ _
         exact ⟨(keeps_of_ex (by assumption)).trans (keeps_gr hgq (Bx.ex (by assumption) hx3A)), ⟨rfl, pre, x, rfl, by assumption⟩, (by repeat (first | assumption | ((with_reducible apply Bx.grownS); assumption; (first | omega | exact Bx.ne (by assumption) (by omega))) | ((with_reducible apply Bx.below); assumption; omega) | ((with_reducible apply Bx.ex); assumption))), (by repeat (first | assumption | ((with_reducible apply Bx.grownS); assumption; (first | omega | exact Bx.ne (by assumption) (by omega))) | ((with_reducible apply Bx.below); assumption; omega) | ((with_reducible apply Bx.ex); assumption))), hbq, (by repeat (first | assumption | exact Ex.refl _ | (refine Ex.trans ?_ (by assumption)) | (refine Ex.of_grown ?_ (by assumption) (by intro k hk; cases hk; omega))))⟩)
  case done =>
    rintro D xs A hD hS ⟨hxs, heA⟩ halA
    have hfr : freeN rest sl t (a, b) k := by
      intro j hj hf hc
      have : (j : Int) ∈ xs.map vI := by
        rw [show xs.map vI = _ from hS]; exact clTo_mem.2 ⟨j, rfl, hj, hc⟩
      obtain ⟨x, hx, hxe⟩ := List.mem_map.1 this
      have hxe2 : x.1 = j := by unfold vI at hxe; omega
      exact hxs x hx (by rw [hxe2]; exact hf)
    have hkM : k = M := by
      rcases Nat.lt_or_ge k M with h1 | h1
      · exact absurd hfr (hMn k h1)
      · omega
    repeat' (first
        | ((first | ((with_reducible apply W_op); exact rfl; exact rfl) | ((with_reducible apply WQ_op); exact rfl; exact rfl; intro wq he) | ((with_reducible apply WM_op); exact rfl; exact rfl; intro wq he) | ((with_reducible apply WB_op); exact rfl; exact rfl; intro wq)); (first | ((with_reducible apply r_assign); ((conv => lhs; whnf) <;> exact rfl)) | ((with_reducible apply r_load); exact rfl; exact rfl; (first | assumption | exact (Bx.cell (by repeat (first | assumption | ((with_reducible apply Bx.grownS); assumption; (first | omega | exact Bx.ne (by assumption) (by omega))) | ((with_reducible apply Bx.below); assumption; omega) | ((with_reducible apply Bx.ex); assumption))) _).trans rfl | exact Ex.cell (by assumption) (by assumption)))))
        | (with_reducible apply W_nil)
        | (with_reducible apply c_seq)
        | ((with_reducible apply c_region); kernel_rfl)
        | (with_reducible apply n_nq)
        | (with_reducible apply c_ret)
        | (with_reducible apply c_exit)
        | (with_reducible apply n_then)
        | (with_reducible apply n_block)
        | (with_reducible apply e_then)
        | (with_reducible apply e_block)
        | (with_reducible apply r_scope)
        | ((with_reducible apply e_block'); decide)
        | ((with_reducible apply m_ret1); (focus ((repeat (first | assumption | exact Al.nil _ _ | ((with_reducible apply Al.grownS); assumption; (focus ((repeat (first | assumption | ((with_reducible apply Bx.grownS); assumption; (first | omega | exact Bx.ne (by assumption) (by omega))) | ((with_reducible apply Bx.below); assumption; omega) | ((with_reducible apply Bx.ex); assumption))); done))) | (refine Al.ex (by assumption) ?_))); done)); exact rfl; ((conv => lhs; whnf) <;> exact rfl); refine ⟨_, rfl, ?_, (shut_grown _ _ (by repeat (first | assumption | exact Al.nil _ _ | ((with_reducible apply Al.grownS); assumption; (focus ((repeat (first | assumption | ((with_reducible apply Bx.grownS); assumption; (first | omega | exact Bx.ne (by assumption) (by omega))) | ((with_reducible apply Bx.below); assumption; omega) | ((with_reducible apply Bx.ex); assumption))); done))) | (refine Al.ex (by assumption) ?_))) (by repeat (first | assumption | exact Ex.refl _ | (refine Ex.trans ?_ (by assumption)) | (refine Ex.of_grown ?_ (by assumption) (by intro k hk; cases hk; omega)))) (Nat.le_refl _))⟩))
    rw [hM, hkM]
  case stop =>
    rintro D c pre A hD ⟨pr, x, hp1, hc⟩ ⟨⟨rfl, pr2, x2, hp2, hf⟩, hx1A, hx2A, hx3A, heA⟩ halA
    obtain ⟨_, e2⟩ := List.append_inj' (hp1.symm.trans hp2) rfl
    cases e2
    have hkM : k ≠ M := fun e => hMf x.1 x.2 (by rw [hf, e]) hc
    repeat' (first
        | (with_reducible apply c_exit)
        | (with_reducible apply e_then)
        | (with_reducible apply e_block)
        | ((with_reducible apply e_block'); decide))
    exact n_roundG (k + 1) (hJ _ _ _ _ ⟨_, _, _, rfl, by omega, hb1, hb2, hb3, hne, hne2, hx1A, hx2A, (by simpa using hx3A), (by repeat (first | assumption | exact Ex.refl _ | (refine Ex.trans ?_ (by assumption)) | (refine Ex.of_grown ?_ (by assumption) (by intro k hk; cases hk; omega))))⟩ ⟨rfl, rfl, rfl, trivial⟩ rfl (by repeat (first | assumption | exact Al.nil _ _ | ((with_reducible apply Al.grownS); assumption; (focus ((repeat (first | assumption | ((with_reducible apply Bx.grownS); assumption; (first | omega | exact Bx.ne (by assumption) (by omega))) | ((with_reducible apply Bx.below); assumption; omega) | ((with_reducible apply Bx.ex); assumption))); done))) | (refine Al.ex (by assumption) ?_)))) (by omega)
end Go.Proofs.Ytjcigpakljfkeaa
