/-
  (heavy) (rows) What this text proves: bounds by numbers are as the plain function says. Conditions: the values read as lists.
-/
import Derived.Test.YtlphfobpheefkaaVBh
import Derived.Test.YtlphfobpheefkaaMd
set_option linter.unusedVariables false
set_option linter.unusedSimpArgs false
namespace Go.Pv
open Go.RowKit Go.Sort
/-- A bound by two numbers, and bounds by numbers. -/
def mkB (x : Int × Int) : Int × Int := (1 + x.1 % 4, x.2 % 6)
def setTo (hs : List (Int × Int)) (k : Nat) : List (Int × Int) := if k = 0 then [(2, 3)] else (hs.take k).map mkB
def setB (hs : List (Int × Int)) : List (Int × Int) := setTo hs (min 3 hs.length)
theorem setTo_one {hs : List (Int × Int)} (h : 0 < hs.length) : setTo hs 1 = [mkB (hs.getD 0 (0, 0))] := by
  unfold setTo
  rw [if_neg (by omega)]
  cases hs with
  | nil => simp at h
  | cons a r => rfl
theorem setTo_next {hs : List (Int × Int)} {k : Nat} (h : k < hs.length) (h0 : k ≠ 0) : setTo hs (k + 1) = setTo hs k ++ [mkB (hs.getD k (0, 0))] := by
  unfold setTo
  rw [if_neg (by omega), if_neg h0, List.take_succ_eq_append_getElem h, List.map_append]
  simp [h]
theorem setTo_len {hs : List (Int × Int)} {k : Nat} (h : k ≤ hs.length) : (setTo hs k).length = max 1 k := by
  unfold setTo
  split
  · next e => subst e; rfl
  · simp; omega
theorem setB_len (hs : List (Int × Int)) : 1 ≤ (setB hs).length ∧ (setB hs).length ≤ 3 := by
  unfold setB
  rw [setTo_len (by omega)]
  omega
theorem OwnP.built {E : TypeId} {base b : Nat} {w : World} {x y : Int} (h : Bx w b [.int .i64 x, .int .i64 y] E) (hb : base ≤ b) : OwnP E base w (.slice (some ⟨b, 0, none⟩) 1 1) [(x, y)] := by
  unfold OwnP
  refine ⟨by simp [maxLen], rfl, .inr ⟨b, 1, #[.int .i64 x, .int .i64 y], rfl, hb, ?_, Nat.le_refl _, by simp [maxLen], rfl, rfl⟩⟩
  unfold Bx at h; exact h
end Go.Pv
namespace Go.Proofs.Ytlphfobpheefkaa
open Go.Pv Go.RowKit Go.Sort
set_option maxHeartbeats 8000000
set_option maxRecDepth 20000
theorem made_any (v : Value) (hs : List (Int × Int)) (w : World) (h : Prs8 w v hs) (hh : ∀ j, 0 ≤ (hs.getD j (0, 0)).1 ∧ (hs.getD j (0, 0)).1 ≤ 255 ∧ 0 ≤ (hs.getD j (0, 0)).2 ∧ (hs.getD j (0, 0)).2 ≤ 255) : Ret Try.prog 23 [v] w fun r w' => OwnP 44 w.heap.size w' r (setB hs) := by
  have hv1 := h.one
  have hln := h.len
  have tkA : True := trivial
  have tkB : True := trivial
  refine ret_of_c Try.func23 rfl Try.ntmps23 (Nat.le_of_ble_eq_true rfl) (by dsimp only [ini, Nat.reduceAdd] <;> exact rfl) ?_
  repeat' (first
      | (clear tkA; (with_reducible apply W_bsP); exact rfl; exact rfl; intro b0 w0 hb0 he hnq; have hltq := Bx.lt hb0; have hsz := he.size; (have hb0 : Bx w0 b0 [.int .i64 2, .int .i64 3] 44 := hb0); (have hown := OwnP.built (base := w.heap.size) hb0 (by omega)))
      | ((with_reducible apply W_split); exact rfl; exact rfl; intro _; rotate_left 1; intro hsx; (all_goals (try (exfalso; (focus (first | exact hsx rfl | omega; done))))))
      | ((with_reducible apply W_op); exact rfl; exact rfl; exact r_lenPr8 rfl (Prs8.ex (show Ex w _ from (by repeat (first | exact Ex.refl _ | assumption | (refine Ex.of_grown ?_ (by assumption) (by intro k hk; cases hk; omega)) | (refine Ex.trans ?_ (by assumption))))) h))
      | ((with_reducible (show C _ _ _ _ _ _)); clear tkB; refine c_loopG (fun (k : Nat) ps wr => ∃ r : Value, ∃ i : Int, ps = [(0, v), (3, r), (4, .int .i64 i)] ∧ i = k ∧ k ≤ hs.length ∧ k ≤ 3 ∧ (k = 0 → r = .slice (some ⟨b0, 0, none⟩) 1 1 ∧ Bx wr b0 [.int .i64 2, .int .i64 3] 44) ∧ OwnP 44 w.heap.size wr r (setTo hs k) ∧ Ex w wr) (fun k => 3 - k) 0 _ ⟨_, _, rfl, rfl, Nat.zero_le _, Nat.zero_le _, (fun _ => ⟨rfl, hb0⟩), hown, (by repeat (first | assumption | exact Ex.refl _ | (refine Ex.trans ?_ (by assumption)) | (refine Ex.of_grown ?_ (by assumption) (by intro k hk; cases hk; omega))))⟩ ⟨rfl, rfl, rfl, trivial⟩ (by ((conv => lhs; whnf) <;> exact rfl)) (by ((conv => lhs; whnf) <;> exact rfl)) ?_; rintro J hJ k u ps wr ⟨r, i, rfl, rfl, hk, hk3, hz, hown, he⟩; have hsz := he.size; have tkC : True := trivial)
      | (clear tkC; (have hr1 := OwnP.one hown); (have hlen := setTo_len hk); (have hhk := hh k); (have tkD : True := trivial); by_cases hk0 : k = 0; (obtain ⟨rfl, hb0r⟩ := hz hk0); rotate_left 1)
      | ((with_reducible apply c_cond_dec); exact rfl; intro _; rotate_left 1; intro _; (all_goals (try (exfalso; (focus (omega; done))))))
      | (have _ := tkD; refine c_mixX (id := 5) [] [0, 1, 2, 3, 4, 5, 6, 7, 8, 9, 10, 11, 12, 13, 14, 15] 2 #[true, true, true, true, true, true, true, true, true, true, true, true, true, true, true, true, false, false] [false, false, false, false, false, false, false, false, false, false, false, false, false, false, false, false, false, false] [true, true, true, true, true, true, true, true, true, true, true, true, true, true, true, true, false, false] (by kernel_rfl) (by kernel_rfl) (by kernel_rfl) (by dsimp only [sel] <;> exact rfl) (by dsimp only [sel] <;> exact rfl) ?_)
      | (have _ := tkD; refine WM_indexPr8 (i := k) (v := v) (xs := hs) rfl (Prs8.ex (show Ex w _ from (by repeat (first | exact Ex.refl _ | assumption | (refine Ex.of_grown ?_ (by assumption) (by intro k hk; cases hk; omega)) | (refine Ex.trans ?_ (by assumption))))) h) rfl (by omega) ?_; intro pb po hp0 hp1)
      | (have _ := tkD; (with_reducible apply WM_op); exact rfl; exact rfl; (intro wq he; first | exact r_indexArr (n := 2) (i := 0) rfl rfl (by decide) | exact r_indexArr (n := 2) (i := 1) rfl rfl (by decide)))
      | (have _ := tkD; (with_reducible apply WM_op); exact rfl; exact rfl; (intro wq he; first | exact r_load rfl rfl (Ex.cell he hp0) | exact r_load rfl rfl (Ex.cell he hp1)))
      | (have _ := tkD; (with_reducible apply WM_op); exact rfl; exact rfl; (intro wq he; first | exact r_conv8 rfl (by omega) | exact r_remE rfl rfl (by omega) (by omega)))
      | (have _ := tkD; (with_reducible apply W_alloc); exact rfl; intro b5 w5 hb5 he5 hn5; have hlt5 := Bx.lt hb5; have hsz := he5.size)
      | (have _ := tkD; (with_reducible apply W_storeA); exact rfl; exact Bx.ex (by first | exact Ex.refl _ | assumption) hb5; exact rfl; exact rfl; exact rfl; (repeat' (first | exact trivial | exact rfl | assumption | constructor)); intro w6 hb5 hg5; have hsz := hg5.size; (have he6 : Ex wr w6 := Ex.of_grown (show Ex wr _ from (by repeat (first | exact Ex.refl _ | assumption | (refine Ex.of_grown ?_ (by assumption) (by intro k hk; cases hk; omega)) | (refine Ex.trans ?_ (by assumption))))) hg5 (by intro k hk; cases hk; omega)); (have hb5 : Bx w6 b5 [.int .i64 (mkB (hs.getD k (0, 0))).1, .int .i64 (mkB (hs.getD k (0, 0))).2] 44 := hb5); clear tkD; have tkE : True := trivial)
      | (have _ := tkE; (with_reducible apply W_op); exact rfl; exact rfl; exact r_loadA rfl (Bx.cells (Bx.ex (by first | exact Ex.refl _ | assumption) hb5)) rfl)
      | (have _ := tkE; (with_reducible apply W_op); exact rfl; exact rfl; exact r_indexBx4 (i := 0) rfl rfl (by omega))
      | (have _ := tkE; (with_reducible apply W_storeA); exact rfl; exact Bx.ex he6 hb0r; exact rfl; exact rfl; exact rfl; (repeat' (first | exact trivial | exact rfl | assumption | constructor)); intro w7 hb7 hg7; have hsz := hg7.size; (have hez : Ex w w7 := Ex.of_grown (Ex.trans (show Ex w wr from by assumption) he6) hg7 (by intro k hk; cases hk; omega)); (have hownz : OwnP 44 w.heap.size w7 (.slice (some ⟨b0, 0, none⟩) 1 1) (setTo hs (k + 1)) := (by subst hk0; rw [setTo_one (by omega)]; exact OwnP.built hb7 (by omega))))
      | (have _ := tkE; (with_reducible apply W_bsP); exact rfl; exact rfl; intro b8 w8 hb8 he8 hn8; have hlt8 := Bx.lt hb8; have hsz := he8.size)
      | (have _ := tkE; refine W_appendP (w0 := w) (base := w.heap.size) (v := r) (xs := setTo hs k) rfl (OwnP.ex (show Ex wr _ from (by repeat (first | exact Ex.refl _ | assumption | (refine Ex.of_grown ?_ (by assumption) (by intro k hk; cases hk; omega)) | (refine Ex.trans ?_ (by assumption))))) hown) rfl hb8 (by omega) (Ex.trans (show Ex w wr from by assumption) (show Ex wr _ from (by repeat (first | exact Ex.refl _ | assumption | (refine Ex.of_grown ?_ (by assumption) (by intro k hk; cases hk; omega)) | (refine Ex.trans ?_ (by assumption)))))) (Nat.le_refl _) (by omega) ?_; intro r2 wz hownz hez hbz hgz; have hr21 := OwnP.one hownz; have hsz := hez.size; (have hownz : OwnP 44 w.heap.size wz r2 (setTo hs (k + 1)) := (by rw [setTo_next (by omega) hk0]; exact hownz)))
      | ((first | ((with_reducible apply W_op); exact rfl; exact rfl) | ((with_reducible apply WQ_op); exact rfl; exact rfl; intro wq he) | ((with_reducible apply WM_op); exact rfl; exact rfl; intro wq he) | ((with_reducible apply WB_op); exact rfl; exact rfl; intro wq)); (first | ((with_reducible apply r_move); ((conv => lhs; whnf) <;> exact rfl)) | ((with_reducible apply r_assign); ((conv => lhs; whnf) <;> exact rfl)) | ((with_reducible apply r_lss); exact rfl; exact rfl) | ((with_reducible apply r_eql); exact rfl; exact rfl) | ((with_reducible apply r_add); exact rfl; exact rfl; omega) | ((with_reducible apply r_pick_true); exact rfl; ((conv => lhs; whnf) <;> exact rfl)) | ((with_reducible apply r_pick_false); exact rfl; ((conv => lhs; whnf) <;> exact rfl)) | ((with_reducible apply r_build2); ((conv => lhs; whnf) <;> exact rfl); ((conv => lhs; whnf) <;> exact rfl); (first | exact rfl | assumption | exact IntsK.one (by assumption) | exact Prs.one (by assumption) | exact OwnP.one (by assumption) | exact Own.one (by assumption) | exact Row.one (by assumption) | exact OwnR.one (by assumption)); (first | exact rfl | assumption | exact IntsK.one (by assumption) | exact Prs.one (by assumption) | exact OwnP.one (by assumption) | exact Own.one (by assumption) | exact Row.one (by assumption) | exact OwnR.one (by assumption)); exact rfl; exact rfl; ((simp only [lay, lset, List.replicate_succ, List.replicate_zero]) <;> exact rfl))))
      | ((with_reducible (show Exit.then _ _ _ _ _)); refine n_roundG (k + 1) (hJ _ _ _ _ ⟨_, _, rfl, by omega, by omega, by omega, (fun e => absurd e (Nat.succ_ne_zero _)), hownz, hez⟩ ⟨rfl, rfl, rfl, trivial⟩ rfl) (by omega))
      | (refine XT_one (t := 16) (s := false) (listed := #[true, true, true, true, true, true, true, true, true, true, true, true, true, true, true, true, false, false]) (listed' := #[true, true, true, true, true, true, true, true, true, true, true, true, true, true, true, true, true, false]) (by kernel_rfl) rfl (by kernel_rfl) (by kernel_rfl) ?_)
      | (refine XT_one (t := 17) (s := true) (listed := #[true, true, true, true, true, true, true, true, true, true, true, true, true, true, true, true, true, false]) (listed' := #[true, true, true, true, true, true, true, true, true, true, true, true, true, true, true, true, true, true]) (by kernel_rfl) rfl (by kernel_rfl) (by kernel_rfl) ?_)
      | (with_reducible apply XB_nil)
      | ((with_reducible apply XM_nil); intro wq he; have hsz := he.size)
      | ((with_reducible apply XT_nil); kernel_rfl)
      | (with_reducible apply x_sink)
      | ((with_reducible apply x_keep); (focus ((repeat (first | assumption | exact Ex.refl _ | (refine Ex.trans ?_ (by assumption)) | (refine Ex.of_grown ?_ (by assumption) (by intro k hk; cases hk; omega)))); done)); intro wq he; have hsz := he.size)
      | (with_reducible apply W_nil)
      | ((with_reducible apply W_pass); exact rfl; exact rfl; exact rfl; exact rfl; exact rfl)
      | ((with_reducible apply W_take); exact rfl; exact rfl; exact rfl)
      | (with_reducible apply c_seq)
      | ((with_reducible apply c_region); kernel_rfl)
      | (with_reducible apply n_nq)
      | (with_reducible apply c_block)
      | (with_reducible apply c_skip)
      | (with_reducible apply c_ret)
      | (with_reducible apply c_exit)
      | ((with_reducible apply c_cond_false); exact rfl)
      | (with_reducible apply n_then)
      | (with_reducible apply n_block)
      | (with_reducible apply e_then)
      | (with_reducible apply e_block)
      | ((with_reducible apply p_ret1); exact rfl; exact rfl; ((conv => lhs; whnf) <;> exact rfl); refine ⟨_, rfl, ?_, (by repeat (first | assumption | exact Ex.refl _ | (refine Ex.trans ?_ (by assumption)) | (refine Ex.of_grown ?_ (by assumption) (by intro k hk; cases hk; omega))))⟩))
  all_goals first
    | (rw [show k = min 3 hs.length by omega] at hown; exact hown)
    | trace_state
end Go.Proofs.Ytlphfobpheefkaa
