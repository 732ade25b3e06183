/-
  What this text proves: a store of a struct of two cells behind two others. Over any program. And what a governor's ticks are for a reel.
-/
import Derived.Test.YtnkahanapbfhkaaVp
set_option linter.unusedVariables false
set_option linter.unusedSimpArgs false
namespace Go.Pv
open Go.RowKit
section
variable {P : Program} {Q : Exit → Act → World → Prop} {ol rest : List Oper} {l : St} {w : World} {ty : TypeId} {pos : String} {af : Array Edge} {x y : Operand}
theorem W_storeT {b : Nat} {x0 x1 x2 x3 u v : Value} {T T' : TypeId} {bytes : Nat} {z : Value} [hz : Sz P T z 2 bytes] (hx : ev l x = .pointer (some ⟨b, 2, none⟩)) (hb : Bx w b [x0, x1, x2, x3] T') (hy : ev l y = .agg #[u, v]) (hu : u.oneCell' = true) (hv : v.oneCell' = true)
    (K : ∀ w', Bx w' b [x0, x1, u, v] T' → w.grownBy w' (some b) → W P ol Q rest l w') : W P ol Q (⟨none, .store T x y, ty, pos, af, none⟩ :: rest) l w := by
  obtain ⟨w', h1, h2, h3⟩ := run_storeCells_bx P b T' [u, v] [x0, x1] [x2, x3] w hb rfl (ones_spec (vs := [u, v]) ⟨hu, hv, trivial⟩)
  refine W_skp (w' := w') rfl rfl ?_ (K _ (by simpa using h2) h3)
  have e : storeCells ⟨b, 2, none⟩ [u, v] 0 = storeCells ⟨b, 0, none⟩ [u, v] 2 := by simp [storeCells, add_mk]
  have h1' : (storeCells ⟨b, 2, none⟩ [u, v] 0).run P w = .ok () w' := by rw [e]; exact h1
  simp [execOp, hx, hy, Instr.storeAt, Instr.sureAddr, storeVar, hz.run, Value.cells, h1']
end
theorem gv_get (co ti g : Int) {n k : Nat} (h : k < n) : (gvTo co ti g n).getD k 0 = govOf co ti g (k + 1) - govOf co ti g k := by simp [gvTo, h]
theorem gv_facts {co ti g tick len turn x : Int} {k : Nat} (hr : (1 ≤ ti ∧ ti ≤ 20) ∧ (ti ≤ co ∧ co ≤ 99)) (hg : 0 ≤ g ∧ g ≤ 40) (hk : (k : Int) < 1000) (h1 : tick = govOf co ti g k) (h2 : len = lenOf co g k) (h3 : turn = co + k * g) (h4 : x = govOf co ti g (k + 1) - govOf co ti g k) :
    (tick + x = govOf co ti g (k + 1) ∧ len + turn = lenOf co g (k + 1) ∧ turn + g = co + (k + 1) * g) ∧ (ti ≤ x ∧ x ≤ 600000000) ∧ ((tick + x) * co ≤ (len + turn) * ti ∧ (len + turn) * ti < (tick + x + 1) * co) ∧ (0 ≤ (tick + x) * co ∧ (len + turn) * ti ≤ 60000000000000 ∧ (tick + x + 1) * co ≤ 60000001000000) ∧ (0 ≤ tick ∧ tick ≤ 600000000) ∧ (0 ≤ len ∧ len ≤ 600000000) ∧ (0 ≤ turn ∧ turn ≤ 100000) := by
  have a1 : tick + x = govOf co ti g (k + 1) := by omega
  have a2 : len + turn = lenOf co g (k + 1) := by rw [h2, h3, len_succ]
  have b1 := (len_bd (co := co) (g := g) (n := k) (by omega) (by omega) (by omega)).2.2.2
  have b2 := (len_bd (co := co) (g := g) (n := k + 1) (by omega) (by omega) (by omega)).2.2.2
  have ht : 0 ≤ (k : Int) * g ∧ (k : Int) * g ≤ 1000 * 40 := mul_bd (by omega) hg
  rw [a1, a2]
  have c1 : govOf co ti g (k + 1) * co ≤ lenOf co g (k + 1) * ti := by
    unfold govOf; exact Int.ediv_mul_le _ (by omega)
  have c2 : lenOf co g (k + 1) * ti < (govOf co ti g (k + 1) + 1) * co := by
    unfold govOf; exact Int.lt_ediv_add_one_mul_self _ (by omega)
  have d1 : 0 ≤ govOf co ti g k := Int.ediv_nonneg (Int.mul_nonneg b1.1 (by omega)) (by omega)
  have d2 : 0 ≤ govOf co ti g (k + 1) := Int.ediv_nonneg (Int.mul_nonneg b2.1 (by omega)) (by omega)
  have f1 : lenOf co g (k + 1) * ti ≤ lenOf co g (k + 1) * co := Int.mul_le_mul_of_nonneg_left (by omega) b2.1
  have f2 : govOf co ti g (k + 1) ≤ lenOf co g (k + 1) := by
    have : govOf co ti g (k + 1) * co ≤ lenOf co g (k + 1) * co := by omega
    exact Int.le_of_mul_le_mul_right this (by omega)
  have f3 : govOf co ti g k ≤ lenOf co g k := by
    have e1 : govOf co ti g k * co ≤ lenOf co g k * ti := by unfold govOf; exact Int.ediv_mul_le _ (by omega)
    have e2 : lenOf co g k * ti ≤ lenOf co g k * co := Int.mul_le_mul_of_nonneg_left (by omega) b1.1
    exact Int.le_of_mul_le_mul_right (show govOf co ti g k * co ≤ lenOf co g k * co by omega) (by omega)
  have g1 : govOf co ti g k + ti ≤ govOf co ti g (k + 1) := by
    unfold govOf
    rw [len_succ]
    have e1 : lenOf co g k * ti + ti * co ≤ (lenOf co g k + (co + k * g)) * ti := by
      rw [Int.add_mul, Int.add_mul, Int.mul_comm ti co]
      have := Int.mul_nonneg ht.1 (show 0 ≤ ti by omega)
      omega
    have e2 : (lenOf co g k * ti + ti * co) / co ≤ (lenOf co g k + (co + k * g)) * ti / co := Int.ediv_le_ediv (by omega) e1
    rw [Int.add_mul_ediv_right _ _ (by omega)] at e2
    exact e2
  have p1 := mul_bd (a := lenOf co g (k + 1)) (b := ti) (A := 600000000) (B := 100000) b2 (by omega)
  have p2 := mul_bd (a := govOf co ti g (k + 1)) (b := co) (A := 600000000) (B := 100000) (by omega) (by omega)
  have p3 : (govOf co ti g (k + 1) + 1) * co = govOf co ti g (k + 1) * co + co := by rw [Int.add_mul, Int.one_mul]
  refine ⟨⟨rfl, rfl, by rw [h3, Int.add_mul, Int.one_mul]; omega⟩, ⟨by omega, by omega⟩, ⟨c1, c2⟩, ⟨p2.1, by omega, by omega⟩, by omega, by omega, by omega⟩
theorem gv_zero {co ti g : Int} (hc : 1 ≤ co) : govOf co ti g 0 = 0 := by simp [govOf, len_zero]
theorem gv_one {co ti lo hi g n : Int} (h : woErr co ti lo hi g = 0) (hn : 0 ≤ n ∧ n ≤ 1000) : gvErr co ti lo hi g n = 0 ∧ gvL co ti lo hi g n = gvTo co ti g n.toNat := by
  have e : gvErr co ti lo hi g n = 0 := if_pos ⟨h, hn⟩
  exact ⟨e, if_pos e⟩
end Go.Pv
