/-
  (heavy) What this text proves: the examples of the chapter hold. Conditions: none.
-/
import Derived.Test.YtngoipmdhliigaaVKy
set_option linter.unusedVariables false
set_option linter.unusedSimpArgs false
namespace Go.Pv
open Go.RowKit
section
variable {P : Program} {Q : Exit → Act → World → Prop} {ol rest : List Oper} {l : St} {w : World} {od : Option Nat} {ty : TypeId} {pos : String} {af : Array Edge}
theorem r_eqC {op : BinOp} {T T2 : TypeId} {x y : Operand} {vx vy : Value} (r : Value) (hx : ev l x = vx) (hy : ev l y = vy) (hg : (eqGuard op T x y vx vy).run P w = .ok () w) (h : (binOp op T vx vy).run P w = .ok r w) : Runs P ⟨od, .binOp op T x y T2, ty, pos, af, none⟩ l w r := by
  simp only [Runs, execOp, hx, hy, Sem.run_bind, hg, Result.andThen_ok, h, Sem.run_pure]
/-- A slice of elements whose cells are all given. -/
theorem W_bsG {d N n b : Nat} {e T : TypeId} {z : Value} {ps : List (Nat × Operand)} {qs : List (Nat × Value)} {c : List Value} [hT : Und P T (.slice e)] [hz : Sz P e z n b] (hq : evps l ps = qs) (hN : decide (0 < N * n ∧ N * n ≤ 1000) = true) (hf : Instr.fill (fun i => some (i * n, n)) ((Array.range (N * n)).map (z.cells[· % z.cells.size]!)) qs = some c.toArray)
    (K : ∀ b w', Bx w' b c e → Ex w w' → b = w.heap.size → W P ol Q rest (upd l d (.slice (some ⟨b, 0, none⟩) N N)) w') : W P ol Q (⟨some d, .buildSlice T N ps.toArray, ty, pos, af, none⟩ :: rest) l w := by
  have hN2 := of_decide_eq_true hN
  refine W_run (w' := w.alloc (.cells c.toArray e)) rfl rfl ?_ (K w.heap.size _ (Bx.new w c e) (Ex.alloc _ _) rfl)
  have h1 : ¬ (N * n > 2 ^ 24) := by omega
  have h2 : ¬ (N * n = 0) := by omega
  simp only [execOp, Instr.buildSlice, Sem.run_bind, hT.run, hz.run, Result.andThen_ok, List.map_toArray, map_evps, hq, h1, h2, if_false, hz.zero, Sem.run_pure]
  rw [hf]
  rfl
end
def exF : List (Int × Int) := [(1, 5), (2, 5), (3, 6)]
theorem exF_ok : okS exF ∧ Dist (kS exF) := sh_ok (by decide)
theorem exF_found : FoundC 1 (3 - 1) exF [(1, 5), (2, 5)] := ⟨⟨rfl, by decide⟩, by decide +kernel⟩
theorem exF_off : offTo (atP (nwS 1 [(1, 5), (2, 5)])) exF 3 = [3] := by decide +kernel
theorem exF_wrong {e : Int} {xs : List Int} (h : WrongP 1 1 exF e xs) : e = 0 ∧ xs = [3] := by
  have hc : chk 1 exF = 0 := by decide
  unfold WrongP at h
  rcases h with ⟨h, _⟩ | ⟨_, h⟩
  · exact absurd hc h
  · rcases h with ⟨h, _⟩ | ⟨_, h⟩
    · exact absurd ⟨by decide, by decide⟩ h
    · rcases h with ⟨h, _⟩ | ⟨_, h⟩
      · exact absurd h (by decide)
      · rcases h with ⟨h, _⟩ | ⟨c, hc2, he, hx⟩
        · exact absurd exF_found (h _)
        · have hu := found_uniq (need := 1) (most := 1) (sh := exF) (Nat.le_refl _) exF_ok.1 exF_ok.2 (by decide) hc2 exF_found
          refine ⟨he, ?_⟩
          rw [hx, show (1 : Int).toNat = 1 from rfl, hu, show exF.length = 3 from rfl, exF_off]
          unfold sortL; simp
end Go.Pv
namespace Go.Proofs.Ytngoipmdhliigaa
open Go.Pv Go.RowKit Go.Sort
set_option maxHeartbeats 8000000
set_option maxRecDepth 20000
theorem wVal (v : Value) (w : World) (h : Ints w v [7, 3, 2]) : Ret Try.prog 17 [v, .int .i64 3] w fun r _ => r = .tuple #[.int .i64 34, .int .i64 0] := by
  have := Value_any v [7, 3, 2] 3 w h
  rwa [show valErr [7, 3, 2] 3 = 0 by decide, if_pos rfl, show atP [7, 3, 2] 3 = 34 by decide] at this
theorem wInv (w : World) : Ret Try.prog 19 [.int .i64 2] w fun r _ => r = .tuple #[.int .i64 126, .int .i64 0] := by
  have := Inverse_any 2 w
  rwa [show invErr 2 = 0 by decide, if_pos rfl, show invN 2 = 126 by decide] at this
theorem wDeal (v : Value) (w : World) (h : Ints w v [7, 3, 2]) : Ret Try.prog 21 [v, .int .i64 3] w fun r w' => ∃ u, r = .tuple #[u, .int .i64 0] ∧ Prs w' u [(1, 12), (2, 21), (3, 34)] := by
  have := Deal_any v [7, 3, 2] 3 w h
  rw [show dealErr [7, 3, 2] 3 = 0 by decide, if_pos rfl, show dealL [7, 3, 2] (3 : Int).toNat = [(1, 12), (2, 21), (3, 34)] by decide] at this
  exact this.monoU fun r _ _ ⟨u, e, h⟩ => ⟨u, e, h.prs⟩
theorem wOf (l : List Int) (sh : List (Int × Int)) (v : Value) (w : World) (h : Ints w v l) (hl : l.length ≤ 1000) (he : prsOf l (l.length / 2) = sh) : Ret Try.prog 44 [v] w fun r w' => Prs w' r sh := by
  have := of_any v l w h hl
  rw [he] at this
  exact this.monoU fun r _ _ h => h.prs
theorem wSec (v : Value) (w : World) (h : Prs w v [(1, 12), (4, 51), (2, 21)]) : Ret Try.prog 29 [.int .i64 3, v] w fun r _ => r = .tuple #[.int .i64 7, .int .i64 0] := by
  have := Secret_any 3 v _ w h
  rwa [show whole 3 [(1, 12), (4, 51), (2, 21)] = 0 by decide +kernel, if_pos rfl, show lgS [(1, 12), (4, 51), (2, 21)] (3 : Int).toNat 0 = 7 by decide +kernel] at this
theorem wAgr (b : Bool) (sh : List (Int × Int)) (v : Value) (w : World) (h : Prs w v sh) (h1 : chk 3 sh = 0) (h2 : decide (chk 3 sh = 0 ∧ agreeP (3 : Int).toNat sh) = b) : Ret Try.prog 24 [.int .i64 3, v] w fun r _ => r = .tuple #[.bool b, .int .i64 0] := by
  have := Agree_any 3 v sh w h
  rwa [h2, h1] at this
theorem wPos (v : Value) (w : World) (h : Prs w v [(1, 12), (2, 21)]) : Ret Try.prog 32 [.int .i64 2, v] w fun r w' => ∃ u, r = .tuple #[u, .int .i64 0] ∧ Ints w' u [3] := by
  have := Possible_any 2 v _ w h
  rw [show chk 2 [(1, 12), (2, 21)] = 0 by decide, if_pos rfl, show possL (2 : Int).toNat [(1, 12), (2, 21)] = [3] by decide +kernel] at this
  exact this.monoU fun r _ _ ⟨u, e, h⟩ => ⟨u, e, Pv.Own.ints h⟩
theorem wCnt (n s m : Int) (sh : List (Int × Int)) (v : Value) (w : World) (h : Prs w v sh) (h1 : cntErr n sh s = 0) (h2 : cntN n.toNat sh s = m) : Ret Try.prog 34 [.int .i64 n, v, .int .i64 s] w fun r _ => r = .tuple #[.int .i64 m, .int .i64 0] := by
  have := Count_any n v sh s w h
  rwa [h1, if_pos rfl, h2] at this
theorem wWro (v : Value) (w : World) (h : Prs w v exF) : Ret Try.prog 36 [.int .i64 1, .int .i64 1, v] w fun r w' => ∃ u, r = .tuple #[u, .int .i64 0] ∧ Ints w' u [3] := by
  refine (Wrong_any 1 1 v _ w h).monoU fun r _ _ ⟨u, e, xs, he, hw, ho⟩ => ?_
  obtain ⟨rfl, rfl⟩ := exF_wrong hw
  exact ⟨u, he, Pv.Own.ints ho⟩
theorem wAdd (va vb : Value) (w : World) (h : Prs w va [(1, 12), (2, 21)]) (k : Prs w vb [(1, 240), (2, 1)]) : Ret Try.prog 38 [va, vb] w fun r w' => ∃ u, r = .tuple #[u, .int .i64 0] ∧ Prs w' u [(1, 1), (2, 22)] := by
  have := Add_any va vb _ _ w h k
  rw [show addErr [(1, 12), (2, 21)] [(1, 240), (2, 1)] = 0 by decide, if_pos rfl, show addS [(1, 12), (2, 21)] [(1, 240), (2, 1)] = [(1, 1), (2, 22)] by decide] at this
  exact this.monoU fun r _ _ ⟨u, e, h⟩ => ⟨u, e, h.prs⟩
theorem nums_same (va vb : Value) (l : List Int) (w : World) (ha : Ints w va l) (hb : Ints w vb l) : Ret Try.prog 31 [va, vb] w fun r _ => r = .bool true := by
  have h := numbers_any va vb l l w ha hb
  rwa [decide_eq_true rfl] at h
theorem shas_same (va vb : Value) (l : List (Int × Int)) (w : World) (ha : Prs w va l) (hb : Prs w vb l) : Ret Try.prog 43 [va, vb] w fun r _ => r = .bool true := by
  have h := shares_any va vb l l w ha hb
  rwa [decide_eq_true rfl] at h
end Go.Proofs.Ytngoipmdhliigaa
