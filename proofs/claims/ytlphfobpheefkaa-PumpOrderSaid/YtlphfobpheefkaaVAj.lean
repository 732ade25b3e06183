/-
  (heavy) (rows) What this text proves: slices.Repeat of one number. Conditions: the value reads as a list of one number.
-/
import Derived.Test.YtlphfobpheefkaaVAg
import Derived.Test.YtlphfobpheefkaaVKh
import Derived.Test.YtlphfobpheefkaaZ
set_option linter.unusedVariables false
set_option linter.unusedSimpArgs false
namespace Go.Pv
open Go.RowKit Go.Sort
/-- The first k of n places have a number, the others 0. -/
def fillR (m : Int) (n k : Nat) : List Int := List.replicate k m ++ List.replicate (n - k) 0
theorem fillR_zero (m : Int) (n : Nat) : fillR m n 0 = List.replicate n 0 := by simp [fillR]
theorem fillR_all (m : Int) (n : Nat) : fillR m n n = List.replicate n m := by simp [fillR]
theorem fillR_len {m : Int} {n k : Nat} (h : k ≤ n) : (fillR m n k).length = n := by simp [fillR]; omega
theorem fillR_copy {m : Int} {n k j : Nat} (h : k + j ≤ n) (T : Nat) (hT : T = k + j) : ((fillR m n k).map (Value.int .i64)).take k ++ (List.replicate j m).map (Value.int .i64) ++ ((fillR m n k).map (Value.int .i64)).drop (k + j) = (fillR m n T).map (Value.int .i64) := by
  subst hT
  unfold fillR
  rw [← List.map_take, ← List.map_drop, ← List.map_append, ← List.map_append]
  congr 1
  rw [List.take_left' (by simp), List.drop_append, List.drop_of_length_le (by simp), List.nil_append, List.drop_replicate, List.replicate_append_replicate]
  congr 2
  simp; omega
section
variable {P : Program} {Q : Exit → Act → World → Prop} {ol rest : List Oper} {l : St} {w : World} {od : Option Nat} {ty : TypeId} {pos : String} {af : Array Edge}
theorem r_takeB {x hx2 : Operand} {T e : TypeId} {i m n c g : Nat} {k : IntKind} {z : Value} {b : Nat} [h : Und P T (.slice e)] [hs : Sz P e z m b] (hx : ev l x = .slice (some ⟨g, 0, none⟩) n c) (hi : ev l hx2 = .int k (i : Int)) (hle : i ≤ c) :
    Runs P ⟨od, .slice T x none (some hx2) none, ty, pos, af, none⟩ l w (.slice (some ⟨g, 0, none⟩) i c) := by
  simp [Runs, execOp, hx, hi, Instr.sliceAt, Instr.slice, Instr.sliceBounds, Instr.sliceBound, asIntOf, h.run, hs.run, hle, Addr.add]
theorem r_dropB {x lo : Operand} {T e : TypeId} {i m n c g : Nat} {k : IntKind} {z : Value} {b : Nat} [h : Und P T (.slice e)] [hs : Sz P e z m b] (hx : ev l x = .slice (some ⟨g, 0, none⟩) n c) (hi : ev l lo = .int k (i : Int)) (hle : i ≤ n) (hlt : i < c) :
    Runs P ⟨od, .slice T x (some lo) none none, ty, pos, af, none⟩ l w (.slice (some ⟨g, i * m, none⟩) (n - i) (c - i)) := by
  have h1 : i ≤ c := by omega
  have h2 : ¬ c = i := by omega
  simp [Runs, execOp, hx, hi, Instr.sliceAt, Instr.slice, Instr.sliceBounds, Instr.sliceBound, asIntOf, h.run, hs.run, hle, h1, h2, Addr.add]
  exact fun h => h.symm
theorem r_dropB1 {x lo : Operand} {T e : TypeId} {i n c g : Nat} {k : IntKind} {z : Value} {b : Nat} [h : Und P T (.slice e)] [hs : Sz P e z 1 b] (hx : ev l x = .slice (some ⟨g, 0, none⟩) n c) (hi : ev l lo = .int k (i : Int)) (hle : i ≤ n) (hlt : i < c) :
    Runs P ⟨od, .slice T x (some lo) none none, ty, pos, af, none⟩ l w (.slice (some ⟨g, i, none⟩) (n - i) (c - i)) := by
  have := r_dropB (P := P) (T := T) (e := e) (od := od) (ty := ty) (pos := pos) (af := af) (w := w) hx hi hle hlt
  rwa [Nat.mul_one] at this
theorem r_convU {x : Operand} {src dst : TypeId} {ds : TypeDesc} {m : Nat} [Und P src ds] [hd : Und P dst (.int .u64)] (hx : ev l x = .int .i64 (m : Int)) (hm : m ≤ 1000000) : Runs P ⟨od, .convert src dst x, ty, pos, af, none⟩ l w (.int .u64 (m : Int)) := by
  have := r_conv (P := P) (od := od) (ty := ty) (pos := pos) (af := af) (w := w) (src := src) (dst := dst) (k' := .u64) hx
  rwa [show IntKind.u64.wrap (m : Int) = m by simp [IntKind.wrap, IntKind.signed, IntKind.bits]; omega] at this
theorem r_convI {x : Operand} {src dst : TypeId} {ds : TypeDesc} {m : Nat} [Und P src ds] [hd : Und P dst (.int .i64)] (hx : ev l x = .int .u64 (m : Int)) (hm : m ≤ 1000000) : Runs P ⟨od, .convert src dst x, ty, pos, af, none⟩ l w (.int .i64 (m : Int)) := by
  have := r_conv (P := P) (od := od) (ty := ty) (pos := pos) (af := af) (w := w) (src := src) (dst := dst) (k' := .i64) hx
  rwa [IntWalk.i64_in _ (by omega)] at this
end
/-- The first numbers of a block, read. -/
theorem ints_box {w : World} {b n c : Nat} {xs ys : List Int} {T : TypeId} (h : Bx w b ((xs ++ ys).map (Value.int .i64)) T) (hn : n = xs.length) (hc : n ≤ c) (hm : c ≤ 1000000) : Ints w (.slice (some ⟨b, 0, none⟩) n c) xs := by
  subst hn
  unfold Ints IntsK Sl
  refine ⟨by unfold maxLen; omega, some ⟨b, 0, none⟩, c, rfl, hc, by unfold maxLen; omega, fun i hi => ⟨⟨b, 0, none⟩, .int .i64 xs[i], rfl, ?_, rfl⟩⟩
  rw [add_mk, Nat.zero_add, h.cell]
  simp [List.getElem?_append_left, hi]
end Go.Pv
namespace Go.Proofs.Ytlphfobpheefkaa
open Go.Pv Go.RowKit Go.Sort
set_option maxHeartbeats 8000000
set_option maxRecDepth 20000
theorem mulOne (n : Nat) (hn : n ≤ 1000) (w : World) : Calls Try.prog 97 [.int .u64 ((1 : Nat) : Int), .int .u64 (n : Int)].toArray w fun e w' => ∃ v, e = .returned v ∧ (v = .tuple #[.int .u64 0, .int .u64 (n : Int)] ∧ w' = w) := by
  refine Calls.mono (Try.bits_Mul 1 n (by omega) (by omega) w) ?_
  rintro e w' ⟨rfl, rfl⟩
  refine ⟨_, rfl, ?_, rfl⟩
  rw [show 1 * n / 18446744073709551616 = 0 by omega, show 1 * n % 18446744073709551616 = n by omega]
  rfl
theorem repeat_any (v : Value) (m : Int) (n : Nat) (w : World) (h : Ints w v [m]) (hn : n ≤ 900) : Ret Try.prog 81 [v, .int .i64 (n : Int)] w fun r w' => ∃ g, r = .slice (some ⟨g, 0, none⟩) n n ∧ Bx w' g ((List.replicate n m).map (Value.int .i64)) 3 ∧ w.heap.size ≤ g := by
  have hv1 := h.one
  have tkA : True := trivial
  have tkM : True := trivial
  refine ret_of_c Try.func81 rfl Try.ntmps81 (Nat.le_of_ble_eq_true rfl) (by dsimp only [ini, Nat.reduceAdd] <;> exact rfl) ?_
  repeat' (first
      | ((with_reducible apply c_cond_dec); exact rfl; intro _; rotate_left 1; intro _; (all_goals (try (exfalso; (focus (omega; done))))))
      | ((with_reducible apply W_split); exact rfl; exact rfl; intro _; rotate_left 1; intro hsx; (all_goals (try (exfalso; (focus (first | exact hsx rfl | omega; done))))))
      | ((with_reducible apply W_op); exact rfl; exact rfl; exact r_lenInts rfl (IntsK.ex (show Ex w _ from (by repeat (first | exact Ex.refl _ | assumption | (refine Ex.of_grown ?_ (by assumption) (by intro k hk; cases hk; omega)) | (refine Ex.trans ?_ (by assumption))))) h))
      | ((with_reducible apply W_op); exact rfl; exact rfl; exact r_convU (m := 1) rfl (by decide))
      | ((with_reducible apply W_op); exact rfl; exact rfl; exact r_convU (m := n) rfl (by omega))
      | ((with_reducible apply W_op); exact rfl; exact rfl; exact r_convI (m := n) rfl (by omega))
      | (refine W_callR (mulOne n (by omega) _) rfl ?_; rintro uq wq ⟨rfl, hwq⟩; have hwq := hwq.symm; subst hwq)
      | (clear tkM; refine W_makeI (m := n) rfl rfl (by omega) (by decide) ?_; intro g wq hbx he hg; have hsz := he.size; have hlg := Bx.lt hbx; rw [← fillR_zero m n] at hbx; (by_cases hn0 : n = 0); all_goals (have tkB : True := trivial))
      | (have _ := tkB; refine W_copyT (dl := n) (xs := [m]) (c' := (fillR m n 0).map (Value.int .i64)) rfl rfl (IntsK.ex (show Ex w _ from (by repeat (first | exact Ex.refl _ | assumption | (refine Ex.of_grown ?_ (by assumption) (by intro k hk; cases hk; omega)) | (refine Ex.trans ?_ (by assumption))))) h) (by simp <;> omega) (by simp) hbx (by rw [List.length_map, fillR_len (by omega)]; omega) (by subst hn0; simp [fillR]) ?_; intro wq hbx hgq; (have he : Ex w wq := (by repeat (first | exact Ex.refl _ | assumption | (refine Ex.of_grown ?_ (by assumption) (by intro k hk; cases hk; omega)) | (refine Ex.trans ?_ (by assumption))))); have hsz := he.size)
      | (have _ := tkB; refine W_copyB (dl := n) (xs := [m]) (c' := (fillR m n 1).map (Value.int .i64)) rfl rfl (IntsK.ex (show Ex w _ from (by repeat (first | exact Ex.refl _ | assumption | (refine Ex.of_grown ?_ (by assumption) (by intro k hk; cases hk; omega)) | (refine Ex.trans ?_ (by assumption))))) h) (by simp <;> omega) hbx (by rw [List.length_map, fillR_len (by omega)]; simp <;> omega) (fillR_copy (k := 0) (j := 1) (by omega) 1 rfl) ?_; intro wq hbx hgq; (have he : Ex w wq := (by repeat (first | exact Ex.refl _ | assumption | (refine Ex.of_grown ?_ (by assumption) (by intro k hk; cases hk; omega)) | (refine Ex.trans ?_ (by assumption))))); have hsz := he.size)
      | ((with_reducible (show C _ _ _ _ _ _)); clear tkA; refine c_loopG (fun (q : Nat) ps wr => ∃ k : Int, ps = [(7, .slice (some ⟨g, 0, none⟩) n n), (8, .int .i64 k)] ∧ k = (n : Int) - q ∧ q ≤ n ∧ (q < n ∨ q = 0) ∧ Bx wr g ((fillR m n (n - q)).map (Value.int .i64)) 3 ∧ Ex w wr) (fun q => q) (n - 1) _ ⟨_, rfl, (by first | (simp; omega; done) | omega | ((have e1 : (([m] : List Int).length : Int) = 1 := rfl); omega)), (by omega), (by omega), (by first | (rw [show n - (n - 1) = 1 by omega]; exact hbx) | (rw [show n - (n - 1) = 0 by omega]; exact hbx)), (by assumption)⟩ ⟨rfl, rfl, trivial⟩ (by ((conv => lhs; whnf) <;> exact rfl)) (by ((conv => lhs; whnf) <;> exact rfl)) ?_; rintro J hJ q u ps wr ⟨k, rfl, rfl, hq, hq2, hbx, he⟩; have hsz := he.size; have tkD : True := trivial)
      | (clear tkD; (have hlg := Bx.lt hbx); (obtain ⟨k, hk⟩ : ∃ k, n - q = k := ⟨_, rfl⟩); (have hki : (n : Int) - q = (k : Int) := (by omega)); rw [hk] at hbx; rw [hki]; (obtain ⟨j, hj⟩ : ∃ j, min k q = j := ⟨_, rfl⟩); (have hbx1 : Bx wr g ((List.replicate k m ++ List.replicate (n - k) 0).map (Value.int .i64)) 3 := hbx); (have hin := ints_box (n := k) (c := n) hbx1 (by simp) (by omega) (by omega)); (by_cases hkq : k ≤ q); all_goals (have tkE : True := trivial))
      | (refine c_mixR (id := 9) (keepB ([some g])) [3, 6] [0, 1, 2, 3, 4, 5, 6] 3 #[true, true, true, true, true, true, true, false, false, false] [some false, some false, some false, some true, some false, some false, some true, none, none, none] (by kernel_rfl) (by kernel_rfl) (by kernel_rfl) (by dsimp only [selT] <;> exact rfl) ?_)
      | (have _ := tkE; (with_reducible apply WMR_op); exact rfl; exact rfl; (intro wq hkb; exact r_dropB1 (i := k) rfl rfl (by omega) (by omega)))
      | (have _ := tkE; (with_reducible apply WMR_op); exact rfl; exact rfl; (intro wq hkb; exact r_takeB (i := k) rfl rfl (by omega)))
      | (have _ := tkE; refine W_copyB (o := k) (dl := n - k) (xs := List.replicate k m) (c' := (fillR m n (n - (q - j))).map (Value.int .i64)) rfl rfl (IntsK.ex (show Ex wr _ from (by repeat (first | exact Ex.refl _ | assumption | (refine Ex.of_grown ?_ (by assumption) (by intro k hk; cases hk; omega)) | (refine Ex.trans ?_ (by assumption))))) hin) (by first | (simp; done) | (simp; omega)) (Bx.ex (show Ex wr _ from (by repeat (first | exact Ex.refl _ | assumption | (refine Ex.of_grown ?_ (by assumption) (by intro k hk; cases hk; omega)) | (refine Ex.trans ?_ (by assumption))))) hbx) (by rw [List.length_map, fillR_len (by omega)]; first | (simp; done) | (simp; omega)) (by rw [List.length_replicate]; exact fillR_copy (k := k) (j := k) (by omega) (n - (q - j)) (by omega)) ?_; intro wq hbx2 hgq; (have he2 : Ex w wq := (by repeat (first | exact Ex.refl _ | assumption | (refine Ex.of_grown ?_ (by assumption) (by intro k hk; cases hk; omega)) | (refine Ex.trans ?_ (by assumption))))); have hsz := he2.size; rw [List.length_replicate])
      | (have _ := tkE; refine W_copyT (o := k) (dl := n - k) (xs := List.replicate k m) (c' := (fillR m n (n - (q - j))).map (Value.int .i64)) rfl rfl (IntsK.ex (show Ex wr _ from (by repeat (first | exact Ex.refl _ | assumption | (refine Ex.of_grown ?_ (by assumption) (by intro k hk; cases hk; omega)) | (refine Ex.trans ?_ (by assumption))))) hin) (by first | (simp; done) | (simp; omega)) (by first | (simp; done) | (simp; omega)) (Bx.ex (show Ex wr _ from (by repeat (first | exact Ex.refl _ | assumption | (refine Ex.of_grown ?_ (by assumption) (by intro k hk; cases hk; omega)) | (refine Ex.trans ?_ (by assumption))))) hbx) (by rw [List.length_map, fillR_len (by omega)]; omega) (by rw [List.take_replicate, Nat.min_eq_left (by omega)]; exact fillR_copy (k := k) (j := n - k) (by omega) (n - (q - j)) (by omega)) ?_; intro wq hbx2 hgq; (have he2 : Ex w wq := (by repeat (first | exact Ex.refl _ | assumption | (refine Ex.of_grown ?_ (by assumption) (by intro k hk; cases hk; omega)) | (refine Ex.trans ?_ (by assumption))))); have hsz := he2.size)
      | ((first | ((with_reducible apply W_op); exact rfl; exact rfl) | ((with_reducible apply WQ_op); exact rfl; exact rfl; intro wq he) | ((with_reducible apply WM_op); exact rfl; exact rfl; intro wq he) | ((with_reducible apply WB_op); exact rfl; exact rfl; intro wq)); (first | ((with_reducible apply r_move); ((conv => lhs; whnf) <;> exact rfl)) | ((with_reducible apply r_assign); ((conv => lhs; whnf) <;> exact rfl)) | ((with_reducible apply r_lss); exact rfl; exact rfl) | ((with_reducible apply r_gtr); exact rfl; exact rfl) | ((with_reducible apply r_add); exact rfl; exact rfl; omega) | ((with_reducible apply r_len); exact rfl) | ((with_reducible apply r_pick_false); exact rfl; ((conv => lhs; whnf) <;> exact rfl)) | ((with_reducible apply r_extract); exact rfl; exact rfl)))
      | ((with_reducible (show Exit.then _ _ _ _ _)); refine n_roundG (q - j) (hJ _ _ _ _ ⟨_, rfl, by omega, by omega, by omega, hbx2, he2⟩ ⟨rfl, rfl, trivial⟩ rfl) (by omega))
      | (refine XTR_one (t := 7) (s := true) (listed := #[true, true, true, true, true, true, true, false, false, false]) (listed' := #[true, true, true, true, true, true, true, true, false, false]) (by kernel_rfl) rfl (by kernel_rfl) (by kernel_rfl) ?_)
      | (refine XTR_one (t := 8) (s := true) (listed := #[true, true, true, true, true, true, true, true, false, false]) (listed' := #[true, true, true, true, true, true, true, true, true, false]) (by kernel_rfl) rfl (by kernel_rfl) (by kernel_rfl) ?_)
      | (refine XTR_one (t := 9) (s := true) (listed := #[true, true, true, true, true, true, true, true, true, false]) (listed' := #[true, true, true, true, true, true, true, true, true, true]) (by kernel_rfl) rfl (by kernel_rfl) (by kernel_rfl) ?_)
      | ((with_reducible apply WMR_op); exact rfl; exact rfl; (intro wq hkb; (first | ((with_reducible apply r_move); ((conv => lhs; whnf) <;> exact rfl)))))
      | ((with_reducible apply WMR_nil); intro wq he hszq; have hsz := he.size)
      | ((with_reducible apply XTR_nil); kernel_rfl)
      | (with_reducible apply xR_sink)
      | ((with_reducible apply xR_keep); first | exact (keepB _).refl _ | exact KeepB.of_ex (by assumption) | exact KeepB.of_grown (by assumption) (by simp))
      | (with_reducible apply W_nil)
      | ((with_reducible apply W_take); exact rfl; exact rfl; exact rfl)
      | (with_reducible apply c_seq)
      | ((with_reducible apply c_region); kernel_rfl)
      | (with_reducible apply n_nq)
      | (with_reducible apply c_block)
      | (with_reducible apply c_skip)
      | (with_reducible apply c_ret)
      | (with_reducible apply c_exit)
      | (with_reducible apply n_then)
      | (with_reducible apply n_block)
      | (with_reducible apply e_then)
      | (with_reducible apply e_block)
      | ((with_reducible apply p_ret1); exact rfl; exact rfl; ((conv => lhs; whnf) <;> exact rfl); refine ⟨_, rfl, ?_, (by repeat (first | assumption | exact Ex.refl _ | (refine Ex.trans ?_ (by assumption)) | (refine Ex.of_grown ?_ (by assumption) (by intro k hk; cases hk; omega))))⟩))
  all_goals first
    | (refine ⟨_, rfl, ?_, by omega⟩; rw [show k = n by omega, fillR_all] at hbx; exact hbx)
    | trace_state
end Go.Proofs.Ytlphfobpheefkaa
