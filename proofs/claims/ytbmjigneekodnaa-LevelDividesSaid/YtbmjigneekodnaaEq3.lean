/-
  What this text proves: two arrays of three integers are equal just if their numbers are. Over any program.
-/
import Derived.Test.YtbmjigneekodnaaFacts
import Derived.Test.YtbmjigneekodnaaGn
import Derived.Laws.StructEq
set_option linter.unusedVariables false
set_option linter.unusedSimpArgs false
namespace Go.Pv
open Go Go.RowKit
variable {P : Program}
theorem run_part1 {e : TypeId} {d : TypeDesc} [hu : Und P e d] (hd : aggD d = false) (w : World) (xs : Array Value) (o : Nat) (v : Value) (h : xs[o]? = some v) : (part e xs o).run P w = .ok v w := by
  simp [part, hu.isAgg, hd, h]
theorem run_eqArr3 {t e : TypeId} {b : Nat} (w : World) [ht : Und P t (.array 3 e)] [he : Und P e (.int .i64)] [hs : Sz P e (.int .i64 0) 1 b] (d : Nat) (a0 a1 a2 b0 b1 b2 : Int) :
    (Op.equalIn (d + 2) t (.agg #[.int .i64 a0, .int .i64 a1, .int .i64 a2]) (.agg #[.int .i64 b0, .int .i64 b1, .int .i64 b2])).run P w = .ok (decide ((a0, a1, a2) = (b0, b1, b2))) w := by
  have hp : ∀ (x0 x1 x2 : Int) (o : Nat) (v : Value), (#[Value.int .i64 x0, Value.int .i64 x1, Value.int .i64 x2] : Array Value)[o]? = some v → (part e #[Value.int .i64 x0, Value.int .i64 x1, Value.int .i64 x2] o).run P w = .ok v w := fun x0 x1 x2 o v h => run_part1 rfl w _ o v h
  have p0 : ∀ x0 x1 x2 : Int, (part e #[Value.int .i64 x0, Value.int .i64 x1, Value.int .i64 x2] 0).run P w = .ok (.int .i64 x0) w := fun x0 x1 x2 => hp x0 x1 x2 0 _ rfl
  have p1 : ∀ x0 x1 x2 : Int, (part e #[Value.int .i64 x0, Value.int .i64 x1, Value.int .i64 x2] 1).run P w = .ok (.int .i64 x1) w := fun x0 x1 x2 => hp x0 x1 x2 1 _ rfl
  have p2 : ∀ x0 x1 x2 : Int, (part e #[Value.int .i64 x0, Value.int .i64 x1, Value.int .i64 x2] 2).run P w = .ok (.int .i64 x2) w := fun x0 x1 x2 => hp x0 x1 x2 2 _ rfl
  have hq := fun (x y : Int) => run_equalIn_int (P := P) w d e .i64 .i64 x y he.out
  have hr : List.range' 0 3 = [0, 1, 2] := by decide
  rw [show d + 2 = (d + 1) + 1 from rfl]
  conv => lhs; unfold Op.equalIn
  simp only [Sem.run_bind, ht.run, Result.andThen_ok, hs.run, Std.Legacy.Range.forIn_eq_forIn_range', Std.Legacy.Range.size, Nat.sub_zero, Nat.add_sub_cancel, Nat.div_one, hr, List.forIn_cons, List.forIn_nil, Nat.mul_one, p0, p1, p2, hq]
  by_cases h0 : a0 = b0 <;> by_cases h1 : a1 = b1 <;> by_cases h2 : a2 = b2 <;> simp [h0, h1, h2, p0, p1, p2, hq, hr]
theorem r_eqArr3 {l : St} {w : World} {od : Option Nat} {ty : TypeId} {pos : String} {af : Array Edge} {x y : Operand} {t e : TypeId} {b : Nat} {a b' : Int × Int × Int} (hg : P.eqGuardType P.depth t = false) [ht : Und P t (.array 3 e)] [he : Und P e (.int .i64)] [hs : Sz P e (.int .i64 0) 1 b]
    (hx : ev l x = .agg #[.int .i64 a.1, .int .i64 a.2.1, .int .i64 a.2.2]) (hy : ev l y = .agg #[.int .i64 b'.1, .int .i64 b'.2.1, .int .i64 b'.2.2]) : Runs P ⟨od, .binOp .eql t x y t, ty, pos, af, none⟩ l w (.bool (decide (a = b'))) := by
  unfold Runs
  have h := run_eqArr3 (P := P) (t := t) (e := e) w 9998 a.1 a.2.1 a.2.2 b'.1 b'.2.1 b'.2.2
  rw [show 9998 + 2 = 10000 from rfl] at h
  simp only [execOp, hx, hy, Sem.run_bind, run_eqGuard_agg (w := w) .eql t x y _ _ hg, Result.andThen_ok, run_eql_struct, h, Sem.run_pure]
end Go.Pv
